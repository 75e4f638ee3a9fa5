/- The program's and the specification's MemberOf. -/
import Derived.Test.YtkdjfafgjokeeaaEg
namespace Go.Proofs.Ytkdjfafgjokeeaa
open Go.RowKit Go.Maps Go.WideMaps

def OutMs (w w' : World) (e : Ending) (cd : Int) (ks : List Mb) : Prop :=
  ∃ va vc, e = .returned (.agg #[.int .i64 cd, .slice va ks.length vc]) ∧ w'.ownsRow w.heap.size 57 3 (.slice va ks.length vc) ks.length (mcells ks) ∧ Below w.heap.size w w'
theorem outm_code {w W : World} {R : Nat} {cd : Int} (hR : w.heap.size ≤ R) (hb : Below w.heap.size w W) : OutMs w ((W.setCell ⟨R, 0, none⟩ (.int .i64 cd)).setCell ⟨R, 1, none⟩ (.slice none 0 0)) (.returned (.agg #[.int .i64 cd, .slice none 0 0])) cd [] :=
  ⟨none, 0, rfl, ⟨rfl, .inl ⟨rfl, rfl⟩⟩, (hb.setCell (p := ⟨R, 0, none⟩) hR _).setCell (p := ⟨R, 1, none⟩) hR _⟩
theorem outm_mems {w W : World} {R lo n : Nat} {ks : List Mb} {va : Option Addr} {vc : Nat} {cd : Int} (hn : ks.length = n) (hR : w.heap.size ≤ R) (hlo : R < lo) (hb : Below w.heap.size w W) (hO : W.ownsRow lo 57 3 (.slice va n vc) n (mcells ks)) :
    OutMs w ((W.setCell ⟨R, 0, none⟩ (.int .i64 cd)).setCell ⟨R, 1, none⟩ (.slice va n vc)) (.returned (.agg #[.int .i64 cd, .slice va n vc])) cd ks := by
  subst hn
  exact ⟨va, vc, rfl, Joins.ownsRow_le (ownsRow_setCell_below (ownsRow_setCell_below hO (a := ⟨R, 0, none⟩) hlo _) (a := ⟨R, 1, none⟩) hlo _) (by omega), (hb.setCell (p := ⟨R, 0, none⟩) hR _).setCell (p := ⟨R, 1, none⟩) hR _⟩
/-- Where the specification finds a key. -/
def AtK (ms : List Mb) (n : Nat) (key : Int) (i : Int) : Prop := (i = -1 ∧ ∀ t, t < n → (ms.getD t Z3).1 ≠ key) ∨ ∃ k : Nat, k < n ∧ i = k ∧ (∀ t, t < k → (ms.getD t Z3).1 ≠ key) ∧ (ms.getD k Z3).1 = key

set_option maxHeartbeats 1000000 in
theorem l6At_any (n c : Nat) (a : Option Addr) (ms : List Mb) (key : Int) (w : World) (hn : n ≤ 1048576) (hC : MAt w a n ms) :
    Calls Try.prog 42 #[.slice a n c, .int .i64 key] w fun e w' => ∃ i : Int, e = .returned (.int .i64 i) ∧ Hid (AtK ms n key i) ∧ w' = w := by
  have HC : Hid (MAt w a n ms) := hC
  have HN : Hid (ms.length = n) := hC.1
  clear hC
  go_enter Try.func42, Try.ntmps42
  go_wp2
  go_loop [5] (fun i => ∃ j : Nat, j ≤ n ∧ i = .int .i64 j ∧ Hid (∀ t, t < j → (ms.getD t Z3).1 ≠ key)) (fun i => n - (intOf i).toNat)
  case atStart => exact ⟨0, Nat.zero_le _, rfl, fun t ht => by omega⟩
  case round =>
    obtain ⟨j, hj, rfl, HH⟩ := hrel
    by_cases hlt : j < n
    · rcases HC.out.2 with h0 | ⟨b, off, e0, l0, d0⟩
      · omega
      subst e0
      obtain ⟨ok, hok⟩ : ∃ o, o = (ms.getD j Z3).1 := ⟨_, rfl⟩
      have x0 := (d0 j hlt).1
      rw [← hok] at x0
      have HO : Hid (ok = (ms.getD j Z3).1) := hok
      have hki : (j : Int) < (n : Int) := by omega
      clear d0 hok
      by_cases he : ok = key
      · have HX : Hid (AtK ms n key (j : Int)) := .inr ⟨j, hlt, rfl, HH.out, by rw [← HO.out]; exact he⟩
        go_wp2
        go_ret
        exact ⟨_, rfl, HX, rfl⟩
      · have HX : Hid (∀ t, t < j + 1 → (ms.getD t Z3).1 ≠ key) := fun t ht => by
          rcases Nat.lt_or_ge t j with h1 | h1
          · exact HH.out t h1
          · obtain rfl : t = j := by omega
            rw [← HO.out]; exact he
        go_wp2
        go_round
        case rel => exact ⟨j + 1, by omega, by go_num, HX⟩
        case measure => simp [intOf]; omega
    · have HX : Hid (AtK ms n key (-1)) := .inl ⟨rfl, fun t ht => HH.out t (by omega)⟩
      go_wp2
      go_ret
      exact ⟨_, rfl, HX, rfl⟩

theorem eqMR_any (a b : Option Addr) (n c1 c2 : Nat) (p : Int) (l : List Mb) (w : World) (hl : n ≤ 1048576) (ha : MAt w a n l) (hb : MAt w b n l) :
    Calls Try.prog 10 #[.agg #[.int .i64 p, .slice a n c1], .agg #[.int .i64 p, .slice b n c2]] w fun e w' => e = .returned (.bool true) ∧ Below w.heap.size w w' := by
  have hbx : Below w.heap.size w ((w.alloc (.cells #[.int .i64 p, .slice a n c1] 31)).alloc (.cells #[.int .i64 p, .slice b n c2] 31)) := below_box2 _ _
  have hE := eqMs_any a b n c1 c2 l _ hl (ha.below hbx (Nat.le_refl _)) (hb.below hbx (Nat.le_refl _))
  have HB : Hid (Below w.heap.size w ((w.alloc (.cells #[.int .i64 p, .slice a n c1] 31)).alloc (.cells #[.int .i64 p, .slice b n c2] 31))) := hbx
  clear ha hb hbx
  go_enter Try.func10, Try.ntmps10
  go_wp2_with (first | (go_at_call 11; (with_reducible refine hE.mono ?_); clear hE; rintro e w2 ⟨rfl, hb2⟩))
  go_ret
  exact ⟨rfl, HB.out.trans (hb2.mono HB.out.size)⟩

set_option maxHeartbeats 400000 in
theorem markMR_any (a : Option Addr) (n c lo hi k : Nat) (xs : List Value) (p : Int) (w : World) (hn : n ≤ 1048576) (hk : k ≤ 1000) (h : OwnR w lo hi 57 3 (.slice a n c) n xs) :
    Calls Try.prog 15 #[.agg #[.int .i64 p, .slice a n c], .int .i64 k] w fun e w' => e = .returned (.int .i64 (k + n * 3 : Nat)) ∧ OwnR w' lo hi 57 3 (.slice a n c) n (mkI k (n * 3)) ∧ Chg w w' lo hi := by
  have hL := markMs_any (.slice a n c) n lo hi k xs (w.alloc (.cells #[.int .i64 p, .slice a n c] 31)) hn (by omega) (h.below (below_box _))
  clear h
  go_enter Try.func15, Try.ntmps15
  go_wp2_with (first | (go_at_call 13; refine hL.mono ?_; clear hL; rintro e w2 ⟨rfl, ho2, hg2⟩))
  go_ret
  exact ⟨rfl, ho2, (Chg.of_below (below_box _) lo hi).trans hg2⟩

set_option maxHeartbeats 400000 in
theorem heldMR_any (a : Option Addr) (n c lo hi k : Nat) (p : Int) (w : World) (hn : n ≤ 1048576) (hk : k ≤ 1000) (h : OwnR w lo hi 57 3 (.slice a n c) n (mkI k (n * 3))) :
    Calls Try.prog 16 #[.agg #[.int .i64 p, .slice a n c], .int .i64 k] w fun e w' => e = .returned (.int .i64 (k + n * 3 : Nat)) ∧ Below w.heap.size w w' := by
  have hL := heldMs_any (.slice a n c) n lo hi k (w.alloc (.cells #[.int .i64 p, .slice a n c] 31)) hn hk (h.below (below_box _))
  clear h
  go_enter Try.func16, Try.ntmps16
  go_wp2_with (first | (go_at_call 36; refine hL.mono ?_; clear hL; rintro e w2 ⟨rfl, hw⟩; subst hw))
  go_ret
  exact ⟨ret_int (by omega), below_box _⟩

end Go.Proofs.Ytkdjfafgjokeeaa
