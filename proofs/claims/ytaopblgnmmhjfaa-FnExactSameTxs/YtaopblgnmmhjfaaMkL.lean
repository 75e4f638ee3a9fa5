/- The marks of whole ledgers and of results that hold one; results compared. -/
import Derived.Test.YtaopblgnmmhjfaaMkG
namespace Go.Proofs.Ytaopblgnmmhjfaa
open Go.RowKit Go.Maps Go.WideMaps

/-- A ledger in memory of its own, blocks from 'lo' to 'hi'; its cells xs and ys. -/
structure Own2 (w : World) (lo hi : Nat) (a0 : Option Addr) (n c0 : Nat) (a1 : Option Addr) (m c1 : Nat) (xs ys : List Value) : Prop where
  t : w.ownsRow lo 9 1 (.slice a0 n c0) n xs
  g : w.ownsRow lo 115 2 (.slice a1 m c1) m ys
  tb : ∀ b, Value.ownBlock (.slice a0 n c0) = some b → b < hi
  gb : ∀ b, Value.ownBlock (.slice a1 m c1) = some b → b < hi

section
variable {w w' : World} {lo hi n c0 m c1 : Nat} {a0 a1 : Option Addr} {xs ys : List Value}
theorem Own2.chg (h : Own2 w lo hi a0 n c0 a1 m c1 xs ys) {lo' hi' : Nat} (hc : Chg w w' lo' hi') (hd : hi ≤ lo' ∨ hi' ≤ lo) : Own2 w' lo hi a0 n c0 a1 m c1 xs ys :=
  ⟨hc.row h.t (fun k hk => by have := h.tb k hk; have := (h.t.lt k hk).1; omega), hc.row h.g (fun k hk => by have := h.gb k hk; have := (h.g.lt k hk).1; omega), h.tb, h.gb⟩
theorem Own2.below (h : Own2 w lo hi a0 n c0 a1 m c1 xs ys) (hb : Below w.heap.size w w') : Own2 w' lo hi a0 n c0 a1 m c1 xs ys :=
  h.chg (Chg.of_below hb hi hi) (.inl (Nat.le_refl _))
theorem rows_apart {e e' : TypeId} {s s' n' : Nat} {v v' : Value} {zs zs' : List Value} (hne : e ≠ e') (h : w.ownsRow lo e s v n zs) (h' : w.ownsRow lo e' s' v' n' zs') : ∀ b, v.ownBlock = some b → v'.ownBlock ≠ some b := by
  intro b hb hb'
  rcases h.2 with ⟨rfl, _⟩ | ⟨g, c, cur, rfl, _, hh, _⟩
  · simp [Value.ownBlock] at hb
  rcases h'.2 with ⟨rfl, _⟩ | ⟨g', c', cur', rfl, _, hh', _⟩
  · simp [Value.ownBlock] at hb'
  simp [Value.ownBlock] at hb hb'
  subst hb hb'
  rw [hh] at hh'
  simp at hh'
  exact hne hh'.2
end

theorem markL_mid {w w2 : World} {lo hi n c0 m c1 : Nat} {a0 a1 : Option Addr} {xs ys zs : List Value} (hhi : hi ≤ w.heap.size) (h : Own2 w lo hi a0 n c0 a1 m c1 xs ys)
    (ho : w2.ownsRow lo 9 1 (.slice a0 n c0) n zs) (hg : (w.alloc (.cells #[.slice a0 n c0, .slice a1 m c1] 27)).grownBy w2 (Value.ownBlock (.slice a0 n c0))) :
    w2.cell? ⟨w.heap.size, 1, none⟩ = some (.slice a1 m c1) ∧ Hid (w2.ownsRow lo 9 1 (.slice a0 n c0) n zs ∧ w2.ownsRow lo 115 2 (.slice a1 m c1) m ys) ∧ Hid (Chg w w2 lo hi) := by
  have hc : Chg (w.alloc (.cells #[.slice a0 n c0, .slice a1 m c1] 27)) w2 lo hi := Chg.of_grown hg (fun k hk => ⟨(h.t.lt k hk).1, h.tb k hk⟩)
  have hb := hc.keep (heap_alloc_new w _) (.inr hhi)
  refine ⟨by unfold World.cell?; rw [hb]; rfl, ⟨ho, (h.g.alloc _).kept hg ?_⟩, (Chg.of_below (below_box _) lo hi).trans hc⟩
  by_cases e : Value.ownBlock (.slice a1 m c1) = none
  · exact .inl e
  · right
    obtain ⟨b, hb'⟩ := Option.ne_none_iff_exists'.1 e
    rw [hb']
    exact fun e2 => rows_apart (by decide) h.g h.t b hb' e2.symm

theorem markL_end {w w2 w3 : World} {lo hi n c0 m c1 : Nat} {a0 a1 : Option Addr} {xs ys zs us : List Value} (h : Own2 w lo hi a0 n c0 a1 m c1 xs ys)
    (ho : w2.ownsRow lo 9 1 (.slice a0 n c0) n zs) (hc : Chg w w2 lo hi) (ho3 : w3.ownsRow lo 115 2 (.slice a1 m c1) m us) (hg : w2.grownBy w3 (Value.ownBlock (.slice a1 m c1))) :
    Own2 w3 lo hi a0 n c0 a1 m c1 zs us ∧ Chg w w3 lo hi := by
  refine ⟨⟨ho.kept hg ?_, ho3, h.tb, h.gb⟩, hc.trans (Chg.of_grown hg (fun k hk => ⟨(h.g.lt k hk).1, h.gb k hk⟩))⟩
  by_cases e : Value.ownBlock (.slice a0 n c0) = none
  · exact .inl e
  · right
    obtain ⟨b, hb'⟩ := Option.ne_none_iff_exists'.1 e
    rw [hb']
    exact fun e2 => rows_apart (by decide) h.t h.g b hb' e2.symm

set_option maxHeartbeats 400000 in
theorem markL_any (a0 a1 : Option Addr) (n m c0 c1 lo hi k : Nat) (xs ys : List Value) (w : World) (hk : 0 < k) (hkn : k + n + 2 * m ≤ 4000000) (hhi : hi ≤ w.heap.size) (h : Own2 w lo hi a0 n c0 a1 m c1 xs ys) :
    Calls Try.prog 39 #[.agg #[.slice a0 n c0, .slice a1 m c1], .int .i64 k] w fun e w' => e = .returned (.int .i64 (k + n + 2 * m : Nat)) ∧ Own2 w' lo hi a0 n c0 a1 m c1 (mkL k n) (mkG (k + n) m) ∧ Chg w w' lo hi := by
  have hS := markS_any (.slice a0 n c0) n lo k xs (w.alloc (.cells #[.slice a0 n c0, .slice a1 m c1] 27)) hk (by omega) (h.t.alloc _)
  have H : Hid (Own2 w lo hi a0 n c0 a1 m c1 xs ys) := h
  have hkn' : k + n + m ≤ 4000000 := by omega
  clear h
  go_enter Try.func39, Try.ntmps39
  go_wp2_with (first
    | (go_at_call 98; refine hS.mono ?_; rintro e w2 ⟨rfl, ho2, hg2⟩; obtain ⟨q1, HG, HC⟩ := markL_mid hhi H.out ho2 hg2)
    | (go_at_call 99; refine (markG_any (.slice a1 m c1) m lo (k + n) ys _ hkn' HG.out.2).mono ?_; rintro e w3 ⟨rfl, ho3, hg3⟩))
  go_ret
  obtain ⟨h1, h2⟩ := markL_end H.out HG.out.1 HC.out ho3 hg3
  exact ⟨ret_int (by omega), h1, h2⟩

set_option maxHeartbeats 400000 in
theorem heldL_any (a0 a1 : Option Addr) (n m c0 c1 lo hi k : Nat) (w : World) (hk : 0 < k) (hkn : k + n + 2 * m ≤ 4000000) (h : Own2 w lo hi a0 n c0 a1 m c1 (mkL k n) (mkG (k + n) m)) :
    Calls Try.prog 100 #[.agg #[.slice a0 n c0, .slice a1 m c1], .int .i64 k] w fun e w' => e = .returned (.int .i64 (k + n + 2 * m : Nat)) ∧ Below w.heap.size w w' := by
  have hS := heldS_any (.slice a0 n c0) n lo k (w.alloc (.cells #[.slice a0 n c0, .slice a1 m c1] 27)) hk (by omega) (h.t.alloc _)
  have H : Hid (Own2 w lo hi a0 n c0 a1 m c1 (mkL k n) (mkG (k + n) m)) := h
  have hkn' : k + n + m ≤ 4000000 := by omega
  clear h
  go_enter Try.func100, Try.ntmps100
  go_wp2_with (first
    | (go_at_call 144; refine hS.mono ?_; rintro e w2 ⟨rfl, hb2⟩; obtain ⟨x0, x1, x2, x3, HX⟩ := res_cells (heap_alloc_new w (.cells #[.slice a0 n c0, .slice a1 m c1] 27)) hb2 (by simp); have hbw : Below w.heap.size w w2 := (below_box _).trans (hb2.mono (by simp)))
    | (go_at_call 145; refine (heldG_any (.slice a1 m c1) m lo (k + n) _ hkn' (H.out.below hbw).g).mono ?_; rintro e w3 ⟨rfl, hw⟩; have hw2 := hw.symm; subst hw2))
  go_ret
  exact ⟨ret_int (by omega), hbw⟩

set_option maxHeartbeats 400000 in
theorem markLR_any (a0 a1 : Option Addr) (n m c0 c1 lo hi k : Nat) (xs ys : List Value) (p q : Int) (w : World) (hk : 0 < k) (hkn : k + n + 2 * m ≤ 4000000) (hhi : hi ≤ w.heap.size) (h : Own2 w lo hi a0 n c0 a1 m c1 xs ys) :
    Calls Try.prog 40 #[.agg #[.int .i64 p, .int .i64 q, .slice a0 n c0, .slice a1 m c1], .int .i64 k] w fun e w' => e = .returned (.int .i64 (k + n + 2 * m : Nat)) ∧ Own2 w' lo hi a0 n c0 a1 m c1 (mkL k n) (mkG (k + n) m) ∧ Chg w w' lo hi := by
  have hL := markL_any a0 a1 n m c0 c1 lo hi k xs ys (w.alloc (.cells #[.int .i64 p, .int .i64 q, .slice a0 n c0, .slice a1 m c1] 31)) hk hkn (by simp; omega) (h.below (below_box _))
  clear h
  go_enter Try.func40, Try.ntmps40
  go_wp2_with (first | (go_at_call 39; refine hL.mono ?_; rintro e w2 ⟨rfl, ho2, hc2⟩))
  go_ret
  exact ⟨rfl, ho2, (Chg.of_below (below_box _) lo hi).trans hc2⟩

set_option maxHeartbeats 400000 in
theorem heldLR_any (a0 a1 : Option Addr) (n m c0 c1 lo hi k : Nat) (p q : Int) (w : World) (hk : 0 < k) (hkn : k + n + 2 * m ≤ 4000000) (h : Own2 w lo hi a0 n c0 a1 m c1 (mkL k n) (mkG (k + n) m)) :
    Calls Try.prog 41 #[.agg #[.int .i64 p, .int .i64 q, .slice a0 n c0, .slice a1 m c1], .int .i64 k] w fun e w' => e = .returned (.int .i64 (k + n + 2 * m : Nat)) ∧ Below w.heap.size w w' := by
  have hL := heldL_any a0 a1 n m c0 c1 lo hi k (w.alloc (.cells #[.int .i64 p, .int .i64 q, .slice a0 n c0, .slice a1 m c1] 31)) hk hkn (h.below (below_box _))
  clear h
  go_enter Try.func41, Try.ntmps41
  go_wp2_with (first | (go_at_call 100; refine hL.mono ?_; rintro e w2 ⟨rfl, hb2⟩))
  go_ret
  exact ⟨ret_int (by omega), (below_box _).trans (hb2.mono (by simp))⟩

set_option maxHeartbeats 400000 in
theorem eqLR_any (a0 g0 a1 g1 : Option Addr) (n m c0 c1 d0 d1 : Nat) (p q : Int) (ss : List ByteArray) (gs : List (Int × Int)) (w : World) (hl : n ≤ 1048576) (hm : m ≤ 1048576) (h0 : LedAt w a0 n g0 m ss gs) (h1 : LedAt w a1 n g1 m ss gs) :
    Calls Try.prog 38 #[.agg #[.int .i64 p, .int .i64 q, .slice a0 n c0, .slice g0 m d0], .agg #[.int .i64 p, .int .i64 q, .slice a1 n c1, .slice g1 m d1]] w fun e w' => e = .returned (.bool true) ∧ Below w.heap.size w w' := by
  have hbx : Below w.heap.size w ((w.alloc (.cells #[.int .i64 p, .int .i64 q, .slice a0 n c0, .slice g0 m d0] 31)).alloc (.cells #[.int .i64 p, .int .i64 q, .slice a1 n c1, .slice g1 m d1] 31)) := below_box2 _ _
  have hE := eqL_any a0 g0 a1 g1 n m c0 c1 d0 d1 ss gs _ hl hm (h0.below hbx (Nat.le_refl _)) (h1.below hbx (Nat.le_refl _))
  have HBX : Hid (Below w.heap.size w ((w.alloc (.cells #[.int .i64 p, .int .i64 q, .slice a0 n c0, .slice g0 m d0] 31)).alloc (.cells #[.int .i64 p, .int .i64 q, .slice a1 n c1, .slice g1 m d1] 31))) := hbx
  clear hbx h0 h1
  go_enter Try.func38, Try.ntmps38
  go_wp2_with (first | (go_at_call 35; refine hE.mono ?_; rintro e w2 ⟨rfl, hb2⟩))
  go_ret
  exact ⟨rfl, HBX.out.trans (hb2.mono (by simp; omega))⟩

end Go.Proofs.Ytaopblgnmmhjfaa
