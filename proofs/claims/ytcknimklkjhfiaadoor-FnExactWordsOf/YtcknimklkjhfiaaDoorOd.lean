/- Results with words: compared, marked, held. -/
import Derived.Test.YtcknimklkjhfiaaDoorOc
import Derived.Test.YtcknimklkjhfiaaDoorMk
import Derived.Test.YtcknimklkjhfiaaDoorSignsOf
namespace Go.Proofs.YtcknimklkjhfiaaDoor
open Go.RowKit Go.Maps Go.WideMaps

theorem texts_str (l : List (List UInt8)) : texts l = (l.map str).map Value.string := by simp [texts]
theorem SAt.ownedT {w : World} {base n c : Nat} {a : Option Addr} {l : List (List UInt8)} (h : w.ownsRow base 9 1 (.slice a n c) n (texts l)) (hn : l.length = n) : SAt w a n (l.map str) := by
  rcases id h.2 with ⟨_, h0⟩ | ⟨g, cap, cur, e, _⟩
  · exact ⟨by simpa using hn, .inl h0⟩
  · simp at e
    obtain ⟨rfl, rfl⟩ := e
    rw [texts_str] at h
    exact SAt.owned h (by simpa using hn)

/-- A row of texts, and where its block ends. -/
structure OwnWd (w : World) (lo hi : Nat) (a : Option Addr) (n c : Nat) (xs : List Value) : Prop where
  t : w.ownsRow lo 9 1 (.slice a n c) n xs
  tb : ∀ b, Value.ownBlock (.slice a n c) = some b → b < hi
theorem OwnWd.chg {w w' : World} {lo hi n c : Nat} {a : Option Addr} {xs : List Value} (h : OwnWd w lo hi a n c xs) {lo' hi' : Nat} (hc : Chg w w' lo' hi') (hd : hi ≤ lo' ∨ hi' ≤ lo) : OwnWd w' lo hi a n c xs :=
  ⟨hc.row h.t (fun k hk => by have := h.tb k hk; have := (h.t.lt k hk).1; omega), h.tb⟩
theorem OwnWd.below {w w' : World} {lo hi n c : Nat} {a : Option Addr} {xs : List Value} (h : OwnWd w lo hi a n c xs) (hb : Below w.heap.size w w') : OwnWd w' lo hi a n c xs :=
  h.chg (Chg.of_below hb hi hi) (.inl (Nat.le_refl _))
theorem ownWd_pu {w : World} {base n c : Nat} {a : Option Addr} {xs : List Value} (h : w.ownsRow base 9 1 (.slice a n c) n xs) : OwnWd w base w.heap.size a n c xs := ⟨h, fun b hb => (h.lt b hb).2⟩

set_option maxHeartbeats 400000 in
theorem eqWR_any (a b : Option Addr) (n c1 c2 : Nat) (l : List (List UInt8)) (w : World) (hl : n ≤ 1048576) (ha : SAt w a n (l.map str)) (hb : SAt w b n (l.map str)) :
    Calls Tryd.prog 6 #[.agg #[.int .i64 0, .slice a n c1], .agg #[.int .i64 0, .slice b n c2]] w fun e w' => e = .returned (.bool true) ∧ Below w.heap.size w w' := by
  have hbx : Below w.heap.size w ((w.alloc (.cells #[.int .i64 0, .slice a n c1] 24)).alloc (.cells #[.int .i64 0, .slice b n c2] 24)) := below_box2 _ _
  have hE := eqS_any a b n c1 c2 (l.map str) _ hl (ha.below hbx (Nat.le_refl _)) (hb.below hbx (Nat.le_refl _))
  have HBX : Hid (Below w.heap.size w ((w.alloc (.cells #[.int .i64 0, .slice a n c1] 24)).alloc (.cells #[.int .i64 0, .slice b n c2] 24))) := hbx
  clear hbx ha hb
  go_enter Tryd.func6, Tryd.ntmps6
  go_wp2_with (first | (go_at_call 11; refine hE.mono ?_; rintro e w2 ⟨rfl, hb2⟩))
  go_ret
  exact ⟨rfl, HBX.out.trans (hb2.mono (by simp; omega))⟩

set_option maxHeartbeats 400000 in
theorem markWR_any (a : Option Addr) (n c lo hi k : Nat) (xs : List Value) (w : World) (hk : 0 < k) (hkn : k + n ≤ 4000000) (h : OwnWd w lo hi a n c xs) :
    Calls Tryd.prog 7 #[.agg #[.int .i64 0, .slice a n c], .int .i64 k] w fun e w' => e = .returned (.int .i64 (k + n : Nat)) ∧ OwnWd w' lo hi a n c (mkL k n) ∧ Chg w w' lo hi := by
  have hL := markS_any (.slice a n c) n lo k xs (w.alloc (.cells #[.int .i64 0, .slice a n c] 24)) hk hkn (h.t.alloc _)
  have H : Hid (OwnWd w lo hi a n c xs) := h
  clear h
  go_enter Tryd.func7, Tryd.ntmps7
  go_wp2_with (first | (go_at_call 12; refine hL.mono ?_; rintro e w2 ⟨rfl, ho2, hg2⟩))
  go_ret
  exact ⟨rfl, ⟨ho2, H.out.tb⟩, (Chg.of_below (below_box _) lo hi).trans (Chg.of_grown hg2 (fun k hk => ⟨(H.out.t.lt k hk).1, H.out.tb k hk⟩))⟩

set_option maxHeartbeats 400000 in
theorem heldWR_any (a : Option Addr) (n c lo hi k : Nat) (w : World) (hk : 0 < k) (hkn : k + n ≤ 4000000) (h : OwnWd w lo hi a n c (mkL k n)) :
    Calls Tryd.prog 8 #[.agg #[.int .i64 0, .slice a n c], .int .i64 k] w fun e w' => e = .returned (.int .i64 (k + n : Nat)) ∧ Below w.heap.size w w' := by
  have hL := heldS_any (.slice a n c) n lo k (w.alloc (.cells #[.int .i64 0, .slice a n c] 24)) hk hkn (h.t.alloc _)
  have hd : decide (((k + n : Nat) : Int) < 0) = false := decide_eq_false (by omega)
  have hd2 : ¬ ((k : Int) + (n : Int)) < 0 := by omega
  clear h
  go_enter Tryd.func8, Tryd.ntmps8
  go_wp2_with (first | (go_at_call 13; refine hL.mono ?_; rintro e w2 ⟨rfl, hb2⟩))
  go_ret
  exact ⟨ret_int (by omega), (below_box _).trans (hb2.mono (by simp))⟩

end Go.Proofs.YtcknimklkjhfiaaDoor
