/- The specification's TakeCoins keeps its contract; refs are marked. -/
import Derived.Test.YtbjgngabdcknnaaDk
import Derived.Test.YtbjgngabdcknnaaMr
namespace Go.Proofs.Ytbjgngabdcknnaa
open Go.RowKit Go.Maps Go.WideMaps

theorem goT_one (cs : List Co) (rs : List (Int × Int)) : (∃ ts, goT cs rs = (0, ts)) ∨ goT cs rs = (4, []) := by
  induction rs generalizing cs with
  | nil => exact .inl ⟨cs, rfl⟩
  | cons r rs ih =>
    unfold goT
    by_cases e : hasC cs r = true
    · rw [if_pos e]; exact ih _
    · rw [if_neg e]; exact .inr rfl

set_option maxRecDepth 20000 in
set_option maxHeartbeats 4000000 in
theorem sTakeCoins_any (n c n2 c2 : Nat) (a a2 : Option Addr) (cs : List Co) (rs : List (Int × Int)) (w : World) (hn : n ≤ 1048576) (hk : ∀ j, j < n → (cs.getD j C0).l.length ≤ 1048576) (hn2 : n2 ≤ 1048576) (hC : CAt w a n cs) (hG : GAt w a2 n2 rs) :
    Calls Try.prog 18 #[.slice a n c, .slice a2 n2 c2] w fun e w' => OutCs w w' e (takeR cs rs).1 (takeR cs rs).2 := by
  have hbx : Below w.heap.size w (w.alloc (.cells #[.int .i64 0, .slice none 0 0] 28)) := below_box _
  have hF := l4Fault_any n c a cs (w.alloc (.cells #[.int .i64 0, .slice none 0 0] 28)) hn hk (hC.below hbx (Nat.le_refl _))
  have HBX : Hid (Below w.heap.size w (w.alloc (.cells #[.int .i64 0, .slice none 0 0] 28))) := hbx
  have T1 : Hid ((w.alloc (.cells #[.int .i64 0, .slice none 0 0] 28)).heap[w.heap.size]? = some (.cells #[.int .i64 0, .slice none 0 0] 28 (0, 0))) := heap_alloc_new _ _
  have HC : Hid (CAt w a n cs) := hC
  have HG : Hid (GAt w a2 n2 rs) := hG
  obtain ⟨cd, hcd⟩ : ∃ r, r = coinsR cs := ⟨_, rfl⟩
  rw [← hcd] at hF
  clear hbx hk
  by_cases h0 : cd = 0
  · subst h0
    obtain ⟨h40, hok, hri⟩ := coins_rise hcd.symm
    rw [hC.1] at h40
    by_cases h4 : 4 < n2
    · have hr : takeR cs rs = (2, []) := by unfold takeR; rw [if_neg (by simp [← hcd]), if_pos (by rw [hG.1]; exact h4)]
      rw [hr]
      have h4i : (4 : Int) < (n2 : Int) := by omega
      clear hr hcd hC hG hok hri h4
      go_enter Try.func18, Try.ntmps18
      go_wp2_with (first
        | (go_at_call 35; (with_reducible refine hF.mono ?_); clear hF; rintro e w2 ⟨rfl, hb2⟩; have HT1 := keepb T1.out hb2; have HB2 : Hid (Below w.heap.size w w2) := HBX.out.trans (hb2.mono HBX.out.size); obtain ⟨y0, y1⟩ := cells2 HT1.out; have f0 := Joins.unfrozen_of_block HT1.out 0; have f1 := Joins.unfrozen_of_block HT1.out 1; clear hb2))
      obtain ⟨_, j1⟩ := two_set HT1.out (.int .i64 2) (.slice none 0 0)
      exact bodyPost_ret (v := .agg #[.int .i64 2, .slice none 0 0]) (by simp [results, Try.results18, go_sem, j1]) rfl (out_code (Nat.le_refl _) HB2.out)
    · have hr : takeR cs rs = goT cs rs := by unfold takeR; rw [if_neg (by simp [← hcd]), if_neg (by rw [hG.1]; exact h4)]
      rw [hr]
      have h4i : ¬ (4 : Int) < (n2 : Int) := by omega
      have HL : Hid (∀ W, Below w.heap.size w W → Calls Try.prog 43 #[.slice a n c, .slice a2 n2 c2] W fun e w' => TakeO W w' e (goT cs rs)) := fun W hW => l4Take_any n c n2 c2 a a2 cs rs W h40 hok hri (by omega) (HC.out.below hW (Nat.le_refl _)) (HG.out.below hW (Nat.le_refl _))
      clear hr hcd hC hG hok hri h4
      rcases goT_one cs rs with ⟨ts, hg⟩ | hg
      · have HL' : Hid (∀ W, Below w.heap.size w W → Calls Try.prog 43 #[.slice a n c, .slice a2 n2 c2] W fun e w' => ∃ va vc, e = .returned (.tuple #[.slice va ts.length vc, .bool true]) ∧ Hid (∃ kv, COwn w' W.heap.size w'.heap.size (.slice va ts.length vc) ts.length (fun j => ts.getD j C0) kv) ∧ Hid (Below W.heap.size W w')) := fun W hW => (HL.out W hW).mono fun e w' h => by
          rcases h.2 with ⟨ts', h1, va, vc, h2, h3⟩ | ⟨h1, _⟩
          · rw [hg] at h1
            cases h1
            exact ⟨va, vc, h2, h3, h.1⟩
          · rw [hg] at h1; cases h1
        rw [hg]
        clear HL hg
        go_enter Try.func18, Try.ntmps18
        go_wp2_with (first
          | (go_at_call 35; (with_reducible refine hF.mono ?_); clear hF; rintro e w2 ⟨rfl, hb2⟩; have HT1 := keepb T1.out hb2; have HB2 : Hid (Below w.heap.size w w2) := HBX.out.trans (hb2.mono HBX.out.size); obtain ⟨y0, y1⟩ := cells2 HT1.out; have f0 := Joins.unfrozen_of_block HT1.out 0; have f1 := Joins.unfrozen_of_block HT1.out 1; clear hb2; have hL := HL'.out w2 HB2.out)
          | (go_at_call 43; (with_reducible refine hL.mono ?_); clear hL; rintro e w3 ⟨va, vc, rfl, HO3, HB3⟩; have HT3 := keepb HT1.out HB3.out; clear y0 y1 f0 f1; obtain ⟨y0, y1⟩ := cells2 HT3.out; have f0 := Joins.unfrozen_of_block HT3.out 0; have f1 := Joins.unfrozen_of_block HT3.out 1))
        obtain ⟨_, j1⟩ := two_set HT3.out (.int .i64 0) (.slice va ts.length vc)
        exact bodyPost_ret (v := .agg #[.int .i64 0, .slice va ts.length vc]) (by simp [results, Try.results18, go_sem, j1]) rfl (out_coins (lo := w2.heap.size) (Nat.le_refl _) (lt_of_block HT1.out) (HB2.out.trans (HB3.out.mono HB2.out.size)) HO3.out)
      · have HL' : Hid (∀ W, Below w.heap.size w W → Calls Try.prog 43 #[.slice a n c, .slice a2 n2 c2] W fun e w' => e = .returned (.tuple #[.slice none 0 0, .bool false]) ∧ Hid (Below W.heap.size W w')) := fun W hW => (HL.out W hW).mono fun e w' h => by
          rcases h.2 with ⟨ts', h1, _⟩ | ⟨_, h2⟩
          · rw [hg] at h1; cases h1
          · exact ⟨h2, h.1⟩
        rw [hg]
        clear HL hg
        go_enter Try.func18, Try.ntmps18
        go_wp2_with (first
          | (go_at_call 35; (with_reducible refine hF.mono ?_); clear hF; rintro e w2 ⟨rfl, hb2⟩; have HT1 := keepb T1.out hb2; have HB2 : Hid (Below w.heap.size w w2) := HBX.out.trans (hb2.mono HBX.out.size); obtain ⟨y0, y1⟩ := cells2 HT1.out; have f0 := Joins.unfrozen_of_block HT1.out 0; have f1 := Joins.unfrozen_of_block HT1.out 1; clear hb2; have hL := HL'.out w2 HB2.out)
          | (go_at_call 43; (with_reducible refine hL.mono ?_); clear hL; rintro e w3 ⟨rfl, HB3⟩; have HT3 := keepb HT1.out HB3.out; clear y0 y1 f0 f1; obtain ⟨y0, y1⟩ := cells2 HT3.out; have f0 := Joins.unfrozen_of_block HT3.out 0; have f1 := Joins.unfrozen_of_block HT3.out 1))
        obtain ⟨_, j1⟩ := two_set HT3.out (.int .i64 4) (.slice none 0 0)
        exact bodyPost_ret (v := .agg #[.int .i64 4, .slice none 0 0]) (by simp [results, Try.results18, go_sem, j1]) rfl (out_code (Nat.le_refl _) (HB2.out.trans (HB3.out.mono HB2.out.size)))
  · have hr : takeR cs rs = (cd, []) := by unfold takeR; rw [← hcd, if_pos h0]
    rw [hr]
    clear hr hcd hC hG
    go_enter Try.func18, Try.ntmps18
    go_wp2_with (first
      | (go_at_call 35; (with_reducible refine hF.mono ?_); clear hF; rintro e w2 ⟨rfl, hb2⟩; have HT1 := keepb T1.out hb2; have HB2 : Hid (Below w.heap.size w w2) := HBX.out.trans (hb2.mono HBX.out.size); obtain ⟨y0, y1⟩ := cells2 HT1.out; have f0 := Joins.unfrozen_of_block HT1.out 0; have f1 := Joins.unfrozen_of_block HT1.out 1; clear hb2))
    obtain ⟨_, j1⟩ := two_set HT1.out (.int .i64 cd) (.slice none 0 0)
    exact bodyPost_ret (v := .agg #[.int .i64 cd, .slice none 0 0]) (by simp [results, Try.results18, go_sem, j1]) rfl (out_code (Nat.le_refl _) HB2.out)

end Go.Proofs.Ytbjgngabdcknnaa
