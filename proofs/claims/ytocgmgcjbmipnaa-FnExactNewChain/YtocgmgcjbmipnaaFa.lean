/- The program's fault of a ledger is the specification's, and the law that asks it answers true. -/
import Derived.Test.YtocgmgcjbmipnaaTw
import Derived.Test.YtocgmgcjbmipnaaSp
import Derived.Test.YtocgmgcjbmipnaaLw
namespace Go.Proofs.Ytocgmgcjbmipnaa
open Go.RowKit Go.Maps Go.WideMaps

/-- What the lists hold are values of Go: texts no longer than a length is, numbers of 64 bits. -/
structure Fine (ss : List ByteArray) (gs : List (Int × Int)) : Prop where
  s : ∀ j, (ss.getD j E0).size ≤ maxLen
  g : ∀ j, (Lit.int .i64 (gs.getD j G0).1).wf = true ∧ (Lit.int .i64 (gs.getD j G0).2).wf = true

/-- What a size that is told says. -/
def SzL (n m : Nat) (ss : List ByteArray) (r : Int) : Prop := r = -1 ∨ 0 ≤ r ∧ n ≤ 1048576 ∧ m ≤ 1048576 ∧ ∀ j, j < n → ((ss.getD j E0).size : Int) ≤ 1048576

set_option maxHeartbeats 400000 in
theorem szL_any (n m tc gc : Nat) (ta ga : Option Addr) (ss : List ByteArray) (gs : List (Int × Int)) (w : World) (hn : n ≤ maxLen) (hm : m ≤ maxLen) (hf : Fine ss gs) (h : LedAt w ta n ga m ss gs) :
    Calls Try.prog 4 #[.agg #[.slice ta n tc, .slice ga m gc], .int .i64 1048576] w fun e w' => ∃ r, e = .returned (.int .i64 r) ∧ SzL n m ss r ∧ Below w.heap.size w w' := by
  have hbx : Below w.heap.size w (w.alloc (.cells #[.slice ta n tc, .slice ga m gc] 25)) := below_box _
  have hS := szS_any ta n tc ss 1048576 _ (by omega) (by omega) hn hf.s (h.s.below hbx (Nat.le_refl _))
  have hb0 : w.heap.size < (w.alloc (.cells #[.slice ta n tc, .slice ga m gc] 25)).heap.size := by simp
  go_enter Try.func4, Try.ntmps4
  go_wp2_with (first
    | (go_at_call 13; refine hS.mono ?_; rintro e w2 ⟨r, rfl, hw, hr⟩; have hw2 := hw.symm; subst hw2)
    | (go_at_call 14; rcases hr with hr | hr; (omega); refine (szG_any ga m gc r _ hr.1 (by omega) hm).mono ?_; rintro e w2 ⟨r2, rfl, hw, hr2⟩; have hw2 := hw.symm; subst hw2))
  · go_ret
    exact ⟨_, rfl, Or.inl rfl, hbx⟩
  · go_ret
    exact ⟨_, rfl, Or.inl rfl, hbx⟩
  · have h2 : 0 ≤ r2 := by assumption
    go_ret
    refine ⟨_, rfl, Or.inr ⟨h2, ?_⟩, hbx⟩
    rcases hr2 with e | e
    · omega
    · exact ⟨by omega, by omega, hr.2.2.2⟩

/-- A ledger that came in lies boxed in the block behind the old ones, and all old memory is as it was. -/
structure Bx (w v : World) (ta : Option Addr) (n tc : Nat) (ga : Option Addr) (m gc : Nat) : Prop where
  box : v.heap[w.heap.size]? = some (.cells #[.slice ta n tc, .slice ga m gc] 25 (0, 0))
  bel : Below w.heap.size w v

theorem Bx.start (w : World) (ta : Option Addr) (n tc : Nat) (ga : Option Addr) (m gc : Nat) : Bx w (w.alloc (.cells #[.slice ta n tc, .slice ga m gc] 25)) ta n tc ga m gc := ⟨heap_alloc_new w _, below_box _⟩

section
variable {w v v' : World} {ta ga : Option Addr} {n tc m gc : Nat}
theorem Bx.step (h : Bx w v ta n tc ga m gc) (hb : Below v.heap.size v v') : Bx w v' ta n tc ga m gc :=
  ⟨(hb.block _ (lt_of_block h.box)).trans h.box, h.bel.trans (hb.mono h.bel.size)⟩
theorem Bx.c0 (h : Bx w v ta n tc ga m gc) : v.cell? ⟨w.heap.size, 0, none⟩ = some (.slice ta n tc) := by unfold World.cell?; rw [h.box]; rfl
theorem Bx.c1 (h : Bx w v ta n tc ga m gc) : v.cell? ⟨w.heap.size, 1, none⟩ = some (.slice ga m gc) := by unfold World.cell?; rw [h.box]; rfl
theorem Bx.led (h : Bx w v ta n tc ga m gc) {ss : List ByteArray} {gs : List (Int × Int)} (hl : LedAt w ta n ga m ss gs) : LedAt v ta n ga m ss gs := hl.below h.bel (Nat.le_refl _)
theorem Bx.draws (h : Bx w v ta n tc ga m gc) (j : Nat) : Bx w (v.drewN j) ta n tc ga m gc := h.step (Joins.below_draws _ v j)
end

/-- A size that is not below 0 says how great the ledger is. -/
theorem SzL.le {n m : Nat} {ss : List ByteArray} {r : Int} (h : SzL n m ss r) (hr : 0 ≤ r) : n ≤ 1048576 ∧ m ≤ 1048576 := by
  rcases h with h | h
  · omega
  · exact ⟨h.2.1, h.2.2.1⟩

end Go.Proofs.Ytocgmgcjbmipnaa
