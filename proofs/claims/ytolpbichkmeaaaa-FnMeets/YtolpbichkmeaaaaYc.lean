/- A quorum and who is bad are drawn. -/
import Derived.Test.YtolpbichkmeaaaaYb
namespace Go.Proofs.Ytolpbichkmeaaaa
open Go.RowKit Go.Maps Go.WideMaps

theorem batBelow {w w' : World} {a : Option Addr} {n : Nat} {l : List Int} (h : BAt w a n l) (hb : Below w.heap.size w w') : BAt w' a n l := by
  refine ⟨h.1, ?_⟩
  rcases h.2 with h | ⟨b, off, rfl, hlt, hc⟩
  · exact .inl h
  · exact .inr ⟨b, off, rfl, Nat.lt_of_lt_of_le hlt hb.size, fun j hj => (hb.cell (p := ⟨b, off + j, none⟩) hlt).trans (hc j hj)⟩

/-- A quorum and numbers that were drawn. -/
def OutSf (w w' : World) (e : Ending) : Prop :=
  ∃ (a : Option Addr) (n c : Nat) (ms : List Int) (x : Int) (g m d : Nat) (ks : List Int), e = .returned (.tuple #[.agg #[.slice a n c, .int .i64 x], .slice (some ⟨g, 0, none⟩) m d]) ∧ n ≤ 9 ∧ m ≤ 4 ∧ Hid (IAt w' a n ms ∧ IAt w' (some ⟨g, 0, none⟩) m ks) ∧ Hid ((∀ b off, a = some ⟨b, off, none⟩ → w.heap.size < b) ∧ w.heap.size < g) ∧ Hid (Below w.heap.size w w')

theorem iatSet {W : World} {a : Option Addr} {n B i : Nat} {l : List Int} (h : IAt W a n l) (hB : ∀ b off, a = some ⟨b, off, none⟩ → b ≠ B) (u : Value) : IAt (W.setCell ⟨B, i, none⟩ u) a n l := by
  refine ⟨h.1, ?_⟩
  rcases h.2 with h | ⟨b, off, rfl, hlt, hc⟩
  · exact .inl h
  · exact .inr ⟨b, off, rfl, by simpa using hlt, fun j hj => (World.cell?_of_block (Below.heap_setCell _ ⟨B, i, none⟩ _ b (hB b off rfl))).trans (hc j hj)⟩

set_option maxRecDepth 20000 in
set_option maxHeartbeats 8000000 in
theorem l10With_any (cn cc : Nat) (ca : Option Addr) (l : List Int) (w : World) (hcn : cn ≤ 1048576) (hB : BAt w ca cn l) :
    Calls Try.prog 46 #[.slice ca cn cc] w fun e w' => OutSf w w' e := by
  obtain ⟨W, hW⟩ : ∃ W, W = w.alloc (.cells #[.slice none 0 0, .int .i64 0] 28) := ⟨_, rfl⟩
  have hbx : Below w.heap.size w W := by rw [hW]; exact below_box _
  have HX0 : Hid (W.heap[w.heap.size]? = some (.cells #[.slice none 0 0, .int .i64 0] 28 (0, 0))) := by show _ = _; rw [hW]; exact heap_alloc_new _ _
  have HB : Hid (BAt W ca cn l) := batBelow hB hbx
  have HBX : Hid (Below w.heap.size w W) := hbx
  have HWS : Hid (W.heap.size = w.heap.size + 1) := by show _ = _; rw [hW]; simp
  have hs := l1Source_any ca cn cc W
  rw [hW] at hs
  have HW : Hid (W = w.alloc (.cells #[.slice none 0 0, .int .i64 0] 28)) := hW
  clear hB hbx hW
  go_enter Try.func46, Try.ntmps46
  go_wp2_with (first
    | (go_at_call 22; (with_reducible refine hs.mono ?_); clear hs; rintro e v ⟨rfl, hS⟩; rw [← HW.out] at hS ⊢; have HSL : Hid (W.heap.size < v.heap.size) := hS.lt; have HSB : Hid (Below W.heap.size W v) := hS.bel; have hb := l10Bent_any W.heap.size cn cc 0 ca l W v (by omega) hcn HB.out hS; clear hS)
    | (go_at_call 60; (with_reducible refine hb.mono ?_); clear hb; rintro e v2 ⟨t, a, n, c, ms, x, rfl, ht, hn9, HD⟩; have HD3 : Hid (Dn W v (v2.alloc (.cells #[.slice a n c, .int .i64 x] 28)) W.heap.size ca cn cc t a n c ms) := HD.out.step (below_box _); have hX2 : v2.heap[w.heap.size]? = some (.cells #[.slice none 0 0, .int .i64 0] 28 (0, 0)) := (HD.out.src.bel.block _ (by have := HWS.out; omega)).trans HX0.out; have HX3 : Hid ((v2.alloc (.cells #[.slice a n c, .int .i64 x] 28)).heap[w.heap.size]? = some (.cells #[.slice none 0 0, .int .i64 0] 28 (0, 0))) := (keepb hX2 (below_box _)).out; have HQ3 : Hid ((v2.alloc (.cells #[.slice a n c, .int .i64 x] 28)).heap[v2.heap.size]? = some (.cells #[.slice a n c, .int .i64 x] 28 (0, 0))) := heap_alloc_new _ _; have HQR : Hid (W.heap.size < v2.heap.size) := (by have := HSL.out; have := HD.out.chg.size; show W.heap.size < v2.heap.size; omega); clear hX2))
  obtain ⟨V3, hV3⟩ : ∃ V, V = v2.alloc (.cells #[.slice a n c, .int .i64 x] 28) := ⟨_, rfl⟩
  rw [← hV3] at HD3 HX3 HQ3 ⊢
  obtain ⟨Qb, hQb⟩ : ∃ q, q = v2.heap.size := ⟨_, rfl⟩
  rw [← hQb] at HQ3 HQR ⊢
  clear hV3 hQb
  have hd3 := HD3.out.step (Joins.below_draws V3.heap.size V3 1)
  have hq3 := keepb HQ3.out (Joins.below_draws V3.heap.size V3 1)
  have hx3 := keepb HX3.out (Joins.below_draws V3.heap.size V3 1)
  have hx := l1Next_any W.heap.size cn cc t ca l 4 W (V3.drewN 1) (by omega) (by omega) hcn HB.out hd3.src
  obtain ⟨q0, q1⟩ := cells2 HQ3.out
  have HD3d : Hid (Dn W v (V3.drewN 1) W.heap.size ca cn cc t a n c ms) := hd3
  clear hd3
  go_region_held3 (fun w' => w'.cell? ⟨Qb, 0, none⟩ = some (.slice a n c) ∧ w'.cell? ⟨Qb, 1, none⟩ = some (.int .i64 x)) (first | exact ⟨k0, k1⟩ | exact ⟨y0, y1⟩ | exact ⟨z0, z1⟩ | go_keep)
    (first
      | (go_at_call 24; refine hx.mono ?_; clear hx; rintro e v4 ⟨r, rfl, ⟨hr0, hr1⟩, hS4, hc4⟩; have hr4 : r < 4 := hr1 (by omega); obtain ⟨m, rfl⟩ := Int.eq_ofNat_of_zero_le hr0; have HD4 : Hid (Dn W v v4 W.heap.size ca cn cc (t + 1) a n c ms) := HD3d.out.draw hS4 hc4; have hq4 := hc4.keep hq3.out (.inr HQR.out); have hx4 := hc4.keep hx3.out (.inl (by have := HWS.out; omega)); obtain ⟨z0, z1⟩ := cells2 hq4; have hdk := l10DrawKeys_any W.heap.size cn cc (t + 1) m ca l W v4 (by omega) (by omega) hcn HB.out HD4.out.src; clear hS4 hc4 hr1)
      | (go_at_call 23; refine hdk.mono ?_; clear hdk; rintro e v5 ⟨g, d, ks, rfl, HK⟩; have HD5 : Hid (Dn W v v5 W.heap.size ca cn cc (t + 1 + m) a n c ms) := HD4.out.draw HK.out.src HK.out.chg; have hq5 := HK.out.chg.keep hq4 (.inr HQR.out); have HX5 : Hid (v5.heap[w.heap.size]? = some (.cells #[.slice none 0 0, .int .i64 0] 28 (0, 0))) := HK.out.chg.keep hx4 (.inl (by have := HWS.out; omega)); obtain ⟨y0, y1⟩ := cells2 hq5; obtain ⟨r0, r1⟩ := cells2 HX5.out; have f0 := Joins.unfrozen_of_block HX5.out 0; have f1 := Joins.unfrozen_of_block HX5.out 1; obtain ⟨k0, k1⟩ := cells2 ((heap_set2 (W := v5) (b := w.heap.size) (c := Qb) (by have := HQR.out; have := HWS.out; omega) (.slice a n c) (.int .i64 x)).trans hq5)))
  obtain ⟨_, s1, s2⟩ := two_set HX5.out (.slice a n c) (.int .i64 x)
  have hI1 := HD5.out.at
  have hI2 := HK.out.at
  have hv5 : Below w.heap.size w v5 := HBX.out.trans (HD5.out.src.bel.mono HBX.out.size)
  have hne : ∀ (b : Option Addr) (j e : Nat) (xs : List Int), v5.ownsRow v.heap.size 2 1 (.slice b j e) j (ints xs) → xs.length = j → IAt ((v5.setCell ⟨w.heap.size, 0, none⟩ (.slice a n c)).setCell ⟨w.heap.size, 1, none⟩ (.int .i64 x)) b j xs := fun b j e xs hr hl => IAt.owned (row_set2 hr (by have := HSL.out; have := HWS.out; omega) _ _) hl
  have j1 := hne a n c ms HD5.out.row HD5.out.len
  have j2 := hne (some ⟨g, 0, none⟩) m d ks (Joins.ownsRow_le HK.out.row HD4.out.chg.size) HK.out.len
  go_wp2
  refine bodyPost_ret (v := .tuple #[.agg #[.slice a n c, .int .i64 x], .slice (some ⟨g, 0, none⟩) m d]) (by simp [results, Try.results46, go_sem, s1, s2]) rfl ⟨a, n, c, ms, x, g, m, d, ks, rfl, hn9, by omega, ⟨j1, j2⟩, ⟨fun b off e => by subst e; have := (HD5.out.row.lt b rfl).1; have := HSL.out; have := HWS.out; omega, by have := (HK.out.row.lt g rfl).1; have := HD4.out.chg.size; have := HSL.out; have := HWS.out; omega⟩, below_set2 hv5 (Nat.le_refl _) _ _⟩

set_option maxRecDepth 20000 in
set_option maxHeartbeats 4000000 in
theorem drawSafe_any (cn cc : Nat) (ca : Option Addr) (l : List Int) (w : World) (hcn : cn ≤ 1048576) (hB : BAt w ca cn l) :
    Calls Try.prog 14 #[.slice ca cn cc] w fun e w' => OutSf w w' e := by
  have hbx : Below w.heap.size w (w.alloc (.cells #[.slice none 0 0, .int .i64 0] 28)) := below_box _
  have hwt := l10With_any cn cc ca l (w.alloc (.cells #[.slice none 0 0, .int .i64 0] 28)) hcn (batBelow hB hbx)
  have HX0 : Hid ((w.alloc (.cells #[.slice none 0 0, .int .i64 0] 28)).heap[w.heap.size]? = some (.cells #[.slice none 0 0, .int .i64 0] 28 (0, 0))) := heap_alloc_new _ _
  have HBX : Hid (Below w.heap.size w (w.alloc (.cells #[.slice none 0 0, .int .i64 0] 28))) := hbx
  clear hB hbx
  go_enter Try.func14, Try.ntmps14
  go_wp2_with (go_at_call 46; (with_reducible refine hwt.mono ?_); clear hwt; rintro e v ⟨a, n, c, ms, x, g, m, d, ks, rfl, hn9, hm4, HI, HNW, HBv⟩; have HXv : Hid (v.heap[w.heap.size]? = some (.cells #[.slice none 0 0, .int .i64 0] 28 (0, 0))) := (HBv.out.block _ (by simp)).trans HX0.out; obtain ⟨r0, r1⟩ := cells2 HXv.out; have f0 := Joins.unfrozen_of_block HXv.out 0; have f1 := Joins.unfrozen_of_block HXv.out 1)
  obtain ⟨_, s1, s2⟩ := two_set HXv.out (.slice a n c) (.int .i64 x)
  have hn1 : ∀ b off, a = some ⟨b, off, none⟩ → b ≠ w.heap.size := fun b off e => by have := HNW.out.1 b off e; simp at this; omega
  have hn2 : ∀ b off, (some ⟨g, 0, none⟩ : Option Addr) = some ⟨b, off, none⟩ → b ≠ w.heap.size := fun b off e => by cases e; have := HNW.out.2; simp at this; omega
  have hv5 : Below w.heap.size w v := HBX.out.trans (HBv.out.mono HBX.out.size)
  refine bodyPost_ret (v := .tuple #[.agg #[.slice a n c, .int .i64 x], .slice (some ⟨g, 0, none⟩) m d]) (by simp [results, Try.results14, go_sem, s1, s2]) rfl ⟨a, n, c, ms, x, g, m, d, ks, rfl, hn9, hm4, ⟨iatSet (iatSet HI.out.1 hn1 _) hn1 _, iatSet (iatSet HI.out.2 hn2 _) hn2 _⟩, ⟨fun b off e => by have := HNW.out.1 b off e; simp at this; omega, by have := HNW.out.2; simp at this; omega⟩, below_set2 hv5 (Nat.le_refl _) _ _⟩

end Go.Proofs.Ytolpbichkmeaaaa
