/- A ledger is drawn, right or wrong. -/
import Derived.Test.YtagokfoimokniaaGreatDoorJn9
namespace Go.Proofs.YtagokfoimokniaaGreatDoor
open Go.RowKit Go.Maps Go.WideMaps

theorem iatL3 (V : World) (a b c : Int) : IAt (V.alloc (.cells #[.int .i64 a, .int .i64 b, .int .i64 c] 2)) (some ⟨V.heap.size, 0, none⟩) 3 [a, b, c] :=
  ⟨rfl, .inr ⟨V.heap.size, 0, rfl, by simp, fun j hj => by
    have h := heap_alloc_new V (.cells #[.int .i64 a, .int .i64 b, .int .i64 c] 2)
    match j, hj with
    | 0, _ => unfold World.cell?; rw [h]; rfl
    | 1, _ => unfold World.cell?; rw [h]; rfl
    | 2, _ => unfold World.cell?; rw [h]; rfl⟩⟩
theorem str3_at {v : World} {b : Nat} (h : v.heap[b]? = some (.cells #[.string ⟨#[97]⟩, .string ⟨#[]⟩, .string ⟨#[110, 101, 119]⟩] 9 (0, 0))) (i : Nat) (hi : i < 3) : ∃ x : ByteArray, v.cell? ⟨b, i, none⟩ = some (.string x) ∧ x.size ≤ 3 := by
  match i, hi with
  | 0, _ => exact ⟨⟨#[97]⟩, by unfold World.cell?; rw [h]; rfl, by decide⟩
  | 1, _ => exact ⟨⟨#[]⟩, by unfold World.cell?; rw [h]; rfl, by decide⟩
  | 2, _ => exact ⟨⟨#[110, 101, 119]⟩, by unfold World.cell?; rw [h]; rfl, by decide⟩
theorem made61 : (madeCells (Value.string ByteArray.empty).cells (61 * 1)).toList = (List.replicate 61 E0).map Value.string := by kernel_rfl
theorem getD_rep (k j : Nat) : (List.replicate k E0).getD j E0 = E0 := by
  rw [List.getD, List.getElem?_replicate]
  split <;> rfl
theorem fine61 {ss : List ByteArray} {gs : List (Int × Int)} (h : Fine ss gs) : Fine (List.replicate 61 E0) gs :=
  ⟨fun j => by rw [getD_rep]; simp [E0, maxLen], h.g⟩
theorem IAt.chg1 {v v' : World} {SB b n : Nat} {l : List Int} (h : IAt v (some ⟨b, 0, none⟩) n l) (hc : Chg v v' SB (SB + 1)) (hne : b ≠ SB) : IAt v' (some ⟨b, 0, none⟩) n l := by
  refine ⟨h.1, ?_⟩
  rcases h.2 with h0 | ⟨b', off, e, hl, hcc⟩
  · exact .inl h0
  · cases e
    exact .inr ⟨b, 0, rfl, Nat.lt_of_lt_of_le hl hc.size, fun j hj => (World.cell?_of_block (hc.block b hl (by omega))).trans (hcc j hj)⟩

/-- What the draw of a ledger leaves, right or wrong. -/
def OutDw (w v : World) (SB : Nat) (ca : Option Addr) (cn cc t : Nat) (e : Ending) (v' : World) : Prop :=
  ∃ t' ta n tc ga m gc ss gs, e = .returned (.agg #[.slice ta n tc, .slice ga m gc]) ∧ t' ≤ t ∧ Hid (Src w v' SB ca cn cc t') ∧ Hid (Chg v v' SB (SB + 1)) ∧
    Hid (v'.ownsRow v.heap.size 9 1 (.slice ta n tc) n (ss.map Value.string)) ∧ Hid (v'.ownsRow v.heap.size 111 2 (.slice ga m gc) m (gcells gs)) ∧ Hid (Fine ss gs) ∧ n ≤ 61 ∧ m ≤ 121
theorem Lr.done {w v V : World} {SB : Nat} {ca : Option Addr} {cn cc t LB : Nat} {ta : Option Addr} {n tc : Nat} {ga : Option Addr} {m gc : Nat} {ss : List ByteArray} {gs : List (Int × Int)} (H : Lr w v V SB ca cn cc t v.heap.size LB ta n tc ga m gc ss gs) {T : Nat} (hT : t ≤ T) (hn : n ≤ 61) (hm : m ≤ 121) : OutDw w v SB ca cn cc T (.returned (.agg #[.slice ta n tc, .slice ga m gc])) ((V.setCell ⟨v.heap.size, 0, none⟩ (.slice ta n tc)).setCell ⟨v.heap.size, 1, none⟩ (.slice ga m gc)) := by
  obtain ⟨h1, h2, h3, h4⟩ := H.ret (.slice ta n tc) (.slice ga m gc)
  exact ⟨t, ta, n, tc, ga, m, gc, ss, gs, rfl, hT, h1, h2, h3, h4, H.fine, hn, hm⟩

set_option maxRecDepth 20000 in
set_option maxHeartbeats 16000000 in
theorem l1Ledger_any (SB cn cc t : Nat) (ca : Option Addr) (l0 : List Int) (w v : World) (ht : t ≤ 700) (hcn : cn ≤ 1048577) (hB : BAt w ca cn l0) (h : Src w v SB ca cn cc t) :
    Calls Tryz.prog 19 #[.pointer (some ⟨SB, 0, none⟩)] v fun e v' => OutDw w v SB ca cn cc (t + 23) e v' := by
  have HBA : Hid (BAt w ca cn l0) := hB
  have hlt := h.lt
  have h1 := l1Right_any SB cn cc t ca l0 w (v.alloc (.cells #[.slice none 0 0, .slice none 0 0] 27)) (by omega) hcn hB (h.step (below_box _))
  obtain ⟨i0, hi, hz0, hz1, hz2⟩ := info_parts Tryz.infoStr
  clear hB h
  go_enter Tryz.func19, Tryz.ntmps19
  go_wp2_with (first
    | (go_at_call 51; (with_reducible refine h1.mono ?_); clear h1; rintro e v7 ⟨t7, ta, n, tc, ga, m, gc, ss, gs, rfl, ht7, hS7, hC7, hO7, hG7, hF7, hnn, hmm⟩; have HL7 : Hid (Lr w v (v7.alloc (.cells #[.slice ta n tc, .slice ga m gc] 27)) SB ca cn cc t7 v.heap.size v7.heap.size ta n tc ga m gc ss gs) := Lr.took hS7 hC7 hO7 hG7 hF7 hlt; have h2 := l1Next_any SB cn cc t7 ca l0 16 w (v7.alloc (.cells #[.slice ta n tc, .slice ga m gc] 27)) (by omega) (by omega) hcn HBA.out HL7.out.src; clear hS7 hC7 hO7 hG7 hF7)
    | (go_at_call 18; (with_reducible refine h2.mono ?_); clear h2; rintro e v8 ⟨r, rfl, ⟨a8, b8⟩, hS8, hc8⟩; have HL8 : Hid (Lr w v v8 SB ca cn cc (t7 + 1) v.heap.size v7.heap.size ta n tc ga m gc ss gs) := HL7.out.draw hS8 hc8; clear hS8 hc8 b8; have hs8 := HL8.out.src.lt; obtain ⟨c0, c1⟩ := cells2 HL8.out.box; have f0 := Joins.unfrozen_of_block HL8.out.box 0; have f1 := Joins.unfrozen_of_block HL8.out.box 1; obtain ⟨d0, d1⟩ := cells2 HL8.out.res; have e0 := Joins.unfrozen_of_block HL8.out.res 0; have e1 := Joins.unfrozen_of_block HL8.out.res 1)
    | (at_make; refine wpList_make_full _ rfl _ _ 24 rfl v8.heap.size 9 i0 (.string ByteArray.empty) 1 Tryz.underlying24 hi hz0 hz1 _ _ _ _ 61 rfl rfl (by omega) (by omega) (by rw [hz2]; omega) (by unfold maxLen; omega) (Nat.le_refl _) ?_; intro v9 ho9 hg9; have hb9 : Below v8.heap.size v8 v9 := (Below.refl _ _).grown hg9 (Nat.le_refl _) (fun k h => (by cases h)); rw [made61] at ho9; have hL9 := HL8.out.step hb9; clear c0 c1 f0 f1 d0 d1 e0 e1; obtain ⟨c0, c1⟩ := cells2 hL9.box; have f0 := Joins.unfrozen_of_block hL9.box 0; have HM : Hid (Lr w v (v9.setCell ⟨v7.heap.size, 0, none⟩ (.slice (some ⟨v8.heap.size, 0, none⟩) 61 61)) SB ca cn cc (t7 + 1) v.heap.size v7.heap.size (some ⟨v8.heap.size, 0, none⟩) 61 61 ga m gc (List.replicate 61 E0) gs) := HL8.out.otherT hb9 ho9 (fine61 HL8.out.fine); obtain ⟨x0, x1⟩ := cells2 HM.out.box; obtain ⟨d0, d1⟩ := cells2 HM.out.res; have e0 := Joins.unfrozen_of_block HM.out.res 0; have e1 := Joins.unfrozen_of_block HM.out.res 1; clear hL9 ho9 hg9))
  all_goals first
    | (obtain ⟨j0, j1, j2⟩ := two_set HM.out.res (.slice (some ⟨v8.heap.size, 0, none⟩) 61 61) (.slice ga m gc); exact bodyPost_ret (v := .agg #[.slice (some ⟨v8.heap.size, 0, none⟩) 61 61, .slice ga m gc]) (by simp [results, Tryz.results19, go_sem, j0, j1]) rfl (HM.out.done (by omega) (by omega) (by omega)))
    | (obtain ⟨j0, j1, j2⟩ := two_set HL8.out.res (.slice ta n tc) (.slice ga m gc); exact bodyPost_ret (v := .agg #[.slice ta n tc, .slice ga m gc]) (by simp [results, Tryz.results19, go_sem, j0, j1]) rfl (HL8.out.done (by omega) (by omega) (by omega)))
    | skip
  · have HS : Hid (Lr w v (v8.alloc (.cells #[.string ⟨#[97]⟩, .string ⟨#[]⟩, .string ⟨#[110, 101, 119]⟩] 9)).drew SB ca cn cc (t7 + 1) v.heap.size v7.heap.size ta n tc ga m gc ss gs) := (HL8.out.step (below_box _)).step (Below.refl _ _).drew
    have hcall := l1Next_any SB cn cc (t7 + 1) ca l0 3 w (v8.alloc (.cells #[.string ⟨#[97]⟩, .string ⟨#[]⟩, .string ⟨#[110, 101, 119]⟩] 9)).drew (by omega) (by omega) hcn HBA.out HS.out.src
    have HS2 : Hid (Lr w v v8.drew SB ca cn cc (t7 + 1) v.heap.size v7.heap.size ta n tc ga m gc ss gs) := HL8.out.step (Below.refl _ _).drew
    have hcall2 := l1Next_any SB cn cc (t7 + 1) ca l0 3 w v8.drew (by omega) (by omega) hcn HBA.out HS2.out.src
    have HX : Hid ((v8.alloc (.cells #[.string ⟨#[97]⟩, .string ⟨#[]⟩, .string ⟨#[110, 101, 119]⟩] 9)).drew.heap[v8.heap.size]? = some (.cells #[.string ⟨#[97]⟩, .string ⟨#[]⟩, .string ⟨#[110, 101, 119]⟩] 9 (0, 0))) := heap_alloc_new _ _
    have q3 := (cells2 (HL8.out.step (below_box (.cells #[.string ⟨#[97]⟩, .string ⟨#[]⟩, .string ⟨#[110, 101, 119]⟩] 9))).box).1
    have q4 := (cells2 HS.out.box).1
    go_region_law (first
      | (refine step_append_runM (by rfl) _ _ _ (by rfl) (by rfl) (by rfl) hrun ?_)
      | (rw [if_pos (by rfl)]; go_simp; go_at_call 18; first
          | ((with_reducible refine hcall.mono ?_); clear hcall hcall2; rintro e v9 ⟨z, rfl, ⟨a9, b9⟩, hS9, hc9⟩; have b9' : z < 3 := b9 (by omega); obtain ⟨i, rfl⟩ := Int.eq_ofNat_of_zero_le a9; have hki : (i : Int) < 3 := (by omega); obtain ⟨x, hx, hxs⟩ := str3_at (hc9.keep1 HX.out (by omega)) i (by omega); have HL9 : Hid (Lr w v v9 SB ca cn cc (t7 + 1 + 1) v.heap.size v7.heap.size ta n tc ga m gc ss gs) := HS.out.draw hS9 hc9; have k3 := (cells2 HL9.out.box).1; have k4 := (cells2 (HL9.out.step (below_box (.cells #[.string x] 9))).box).1; obtain ⟨g, cap, w5, hrun, ⟨c3', f3'⟩, HL10⟩ := HL9.out.moreT (x := x) (by omega) (by unfold maxLen; omega); obtain ⟨x0, x1⟩ := cells2 HL10.out.box; obtain ⟨y0, y1⟩ := cells2 HL10.out.res; have y2 := Joins.unfrozen_of_block HL10.out.res 0; have y3 := Joins.unfrozen_of_block HL10.out.res 1; clear hS9 hc9 b9)
          | ((with_reducible refine hcall2.mono ?_); clear hcall hcall2; rintro e v9 ⟨z, rfl, ⟨a9, b9⟩, hS9, hc9⟩; have b9' : z < 3 := b9 (by omega); obtain ⟨i, rfl⟩ := Int.eq_ofNat_of_zero_le a9; have hki : (i : Int) < 3 := (by omega); obtain ⟨x, hx, hxs⟩ := str3_at (heap_alloc_new v9 (.cells #[.string ⟨#[97]⟩, .string ⟨#[]⟩, .string ⟨#[110, 101, 119]⟩] 9)) i (by omega); have HL9 : Hid (Lr w v v9 SB ca cn cc (t7 + 1 + 1) v.heap.size v7.heap.size ta n tc ga m gc ss gs) := HS2.out.draw hS9 hc9; have HL9s : Hid (Lr w v (v9.alloc (.cells #[.string ⟨#[97]⟩, .string ⟨#[]⟩, .string ⟨#[110, 101, 119]⟩] 9)) SB ca cn cc (t7 + 1 + 1) v.heap.size v7.heap.size ta n tc ga m gc ss gs) := HL9.out.step (below_box _); have k2 := (cells2 HL9.out.box).1; have k3 := (cells2 HL9s.out.box).1; have k4 := (cells2 (HL9s.out.step (below_box (.cells #[.string x] 9))).box).1; obtain ⟨g, cap, w5, hrun, ⟨c3', f3'⟩, HL10⟩ := HL9s.out.moreT (x := x) (by omega) (by unfold maxLen; omega); have hsz : (v9.alloc (.cells #[.string ⟨#[97]⟩, .string ⟨#[]⟩, .string ⟨#[110, 101, 119]⟩] 9)).heap.size = v9.heap.size + 1 := (by simp); rw [hsz] at hrun; obtain ⟨x0, x1⟩ := cells2 HL10.out.box; obtain ⟨y0, y1⟩ := cells2 HL10.out.res; have y2 := Joins.unfrozen_of_block HL10.out.res 0; have y3 := Joins.unfrozen_of_block HL10.out.res 1; clear hS9 hc9 b9)))
    all_goals
      go_wp2
      (obtain ⟨j0, j1, j2⟩ := two_set HL10.out.res (.slice (some ⟨g, 0, none⟩) (n + 1) cap) (.slice ga m gc); exact bodyPost_ret (v := .agg #[.slice (some ⟨g, 0, none⟩) (n + 1) cap, .slice ga m gc]) (by simp [results, Tryz.results19, go_sem, j0, j1]) rfl (HL10.out.done (by omega) (by omega) (by omega)))
  · have hA1 := HL8.out.step (below_box (.cells #[.int .i64 1, .int .i64 0, .int .i64 1000] 2))
    have hB1 := HL8.out.step (below_box (.cells #[.int .i64 1, .int .i64 9, .int .i64 0] 2))
    have HW1 : Hid (Lr w v (v8.alloc (.cells #[.int .i64 1, .int .i64 0, .int .i64 1000] 2)).drew SB ca cn cc (t7 + 1) v.heap.size v7.heap.size ta n tc ga m gc ss gs) := hA1.step (Below.refl _ _).drew
    have HW2 : Hid (Lr w v ((v8.alloc (.cells #[.int .i64 1, .int .i64 0, .int .i64 1000] 2)).alloc (.cells #[.int .i64 1, .int .i64 9, .int .i64 0] 2)).drew SB ca cn cc (t7 + 1) v.heap.size v7.heap.size ta n tc ga m gc ss gs) := (hA1.step (below_box (.cells #[.int .i64 1, .int .i64 9, .int .i64 0] 2))).step (Below.refl _ _).drew
    have HW3 : Hid (Lr w v ((v8.alloc (.cells #[.int .i64 1, .int .i64 9, .int .i64 0] 2)).alloc (.cells #[.int .i64 1, .int .i64 0, .int .i64 1000] 2)).drew SB ca cn cc (t7 + 1) v.heap.size v7.heap.size ta n tc ga m gc ss gs) := (hB1.step (below_box (.cells #[.int .i64 1, .int .i64 0, .int .i64 1000] 2))).step (Below.refl _ _).drew
    have zA : (v8.alloc (.cells #[.int .i64 1, .int .i64 0, .int .i64 1000] 2)).heap.size = v8.heap.size + 1 := by simp
    have zB : (v8.alloc (.cells #[.int .i64 1, .int .i64 9, .int .i64 0] 2)).heap.size = v8.heap.size + 1 := by simp
    have iA2 : IAt ((v8.alloc (.cells #[.int .i64 1, .int .i64 0, .int .i64 1000] 2)).alloc (.cells #[.int .i64 1, .int .i64 9, .int .i64 0] 2)).drew (some ⟨v8.heap.size, 0, none⟩) 3 [1, 0, 1000] := ((iatL3 v8 1 0 1000).below (below_box _) (Nat.le_refl _)).below (Below.refl _ _).drew (Nat.le_refl _)
    have iB2 : IAt ((v8.alloc (.cells #[.int .i64 1, .int .i64 0, .int .i64 1000] 2)).alloc (.cells #[.int .i64 1, .int .i64 9, .int .i64 0] 2)).drew (some ⟨v8.heap.size + 1, 0, none⟩) 3 [1, 9, 0] := by
      have := (iatL3 (v8.alloc (.cells #[.int .i64 1, .int .i64 0, .int .i64 1000] 2)) 1 9 0).below (Below.refl _ _).drew (Nat.le_refl _)
      rw [zA] at this
      exact this
    have iA3 : IAt ((v8.alloc (.cells #[.int .i64 1, .int .i64 9, .int .i64 0] 2)).alloc (.cells #[.int .i64 1, .int .i64 0, .int .i64 1000] 2)).drew (some ⟨v8.heap.size + 1, 0, none⟩) 3 [1, 0, 1000] := by
      have := (iatL3 (v8.alloc (.cells #[.int .i64 1, .int .i64 9, .int .i64 0] 2)) 1 0 1000).below (Below.refl _ _).drew (Nat.le_refl _)
      rw [zB] at this
      exact this
    have iB3 : IAt ((v8.alloc (.cells #[.int .i64 1, .int .i64 9, .int .i64 0] 2)).alloc (.cells #[.int .i64 1, .int .i64 0, .int .i64 1000] 2)).drew (some ⟨v8.heap.size, 0, none⟩) 3 [1, 9, 0] := ((iatL3 v8 1 9 0).below (below_box _) (Nat.le_refl _)).below (Below.refl _ _).drew (Nat.le_refl _)
    have h1a := l1Pick_any SB cn cc (t7 + 1) 3 3 ca (some ⟨v8.heap.size, 0, none⟩) l0 [1, 0, 1000] w (v8.alloc (.cells #[.int .i64 1, .int .i64 0, .int .i64 1000] 2)).drew (by omega) (by omega) (by omega) hcn HBA.out HW1.out.src ((iatL3 v8 1 0 1000).below (Below.refl _ _).drew (Nat.le_refl _)) (fun b off e => by cases e; omega)
    have h1b := l1Pick_any SB cn cc (t7 + 1) 3 3 ca (some ⟨v8.heap.size, 0, none⟩) l0 [1, 0, 1000] w ((v8.alloc (.cells #[.int .i64 1, .int .i64 0, .int .i64 1000] 2)).alloc (.cells #[.int .i64 1, .int .i64 9, .int .i64 0] 2)).drew (by omega) (by omega) (by omega) hcn HBA.out HW2.out.src iA2 (fun b off e => by cases e; omega)
    have h1c := l1Pick_any SB cn cc (t7 + 1) 3 3 ca (some ⟨v8.heap.size + 1, 0, none⟩) l0 [1, 0, 1000] w ((v8.alloc (.cells #[.int .i64 1, .int .i64 9, .int .i64 0] 2)).alloc (.cells #[.int .i64 1, .int .i64 0, .int .i64 1000] 2)).drew (by omega) (by omega) (by omega) hcn HBA.out HW3.out.src iA3 (fun b off e => by cases e; omega)
    have HIB2 : Hid (IAt ((v8.alloc (.cells #[.int .i64 1, .int .i64 0, .int .i64 1000] 2)).alloc (.cells #[.int .i64 1, .int .i64 9, .int .i64 0] 2)).drew (some ⟨v8.heap.size + 1, 0, none⟩) 3 [1, 9, 0]) := iB2
    have HIB3 : Hid (IAt ((v8.alloc (.cells #[.int .i64 1, .int .i64 9, .int .i64 0] 2)).alloc (.cells #[.int .i64 1, .int .i64 0, .int .i64 1000] 2)).drew (some ⟨v8.heap.size, 0, none⟩) 3 [1, 9, 0]) := iB3
    have q1 := (cells2 hA1.box).2
    have q2 := (cells2 hB1.box).2
    have q3 := (cells2 (hA1.step (below_box (.cells #[.int .i64 1, .int .i64 9, .int .i64 0] 2))).box).2
    have q4 := (cells2 (hB1.step (below_box (.cells #[.int .i64 1, .int .i64 0, .int .i64 1000] 2))).box).2
    have q5 := (cells2 HW1.out.box).2
    have q6 := (cells2 HW2.out.box).2
    have q7 := (cells2 HW3.out.box).2
    clear hA1 hB1 iA2 iB2 iA3 iB3
    go_region_law (first
      | (refine step_append_runM (by rfl) _ _ _ (by rfl) (by rfl) (by rfl) hrun ?_)
      | (rw [if_pos (by rfl)]; go_simp; go_at_call 22; first
          | ((have hq := h1a); clear h1a; (with_reducible refine hq.mono ?_); clear hq h1b h1c; rintro e v9 ⟨z1, rfl, hz1, hS9, hc9⟩; have HL9 : Hid (Lr w v v9 SB ca cn cc (t7 + 1 + 1) v.heap.size v7.heap.size ta n tc ga m gc ss gs) := HW1.out.draw hS9 hc9; have k1 := (cells2 HL9.out.box).2; have HLq : Hid (Lr w v (v9.alloc (.cells #[.int .i64 1, .int .i64 9, .int .i64 0] 2)) SB ca cn cc (t7 + 1 + 1) v.heap.size v7.heap.size ta n tc ga m gc ss gs) := HL9.out.step (below_box _); have k2 := (cells2 HLq.out.box).2; have hl9 := HL9.out.src.lt; have hc2 := l1Pick_any SB cn cc (t7 + 1 + 1) 3 3 ca (some ⟨v9.heap.size, 0, none⟩) l0 [1, 9, 0] w (v9.alloc (.cells #[.int .i64 1, .int .i64 9, .int .i64 0] 2)) (by omega) (by omega) (by omega) hcn HBA.out HLq.out.src (iatL3 v9 1 9 0) (fun b off e => (by cases e; omega)); clear hS9 hc9)
          | ((have hq := h1b); clear h1b; (with_reducible refine hq.mono ?_); clear hq h1a h1c; rintro e v9 ⟨z1, rfl, hz1, hS9, hc9⟩; have HLq : Hid (Lr w v v9 SB ca cn cc (t7 + 1 + 1) v.heap.size v7.heap.size ta n tc ga m gc ss gs) := HW2.out.draw hS9 hc9; have k1 := (cells2 HLq.out.box).2; have hc2 := l1Pick_any SB cn cc (t7 + 1 + 1) 3 3 ca (some ⟨v8.heap.size + 1, 0, none⟩) l0 [1, 9, 0] w v9 (by omega) (by omega) (by omega) hcn HBA.out HLq.out.src (HIB2.out.chg1 hc9 (by omega)) (fun b off e => (by cases e; omega)); clear hS9 hc9)
          | ((have hq := h1c); clear h1c; (with_reducible refine hq.mono ?_); clear hq h1a h1b; rintro e v9 ⟨z1, rfl, hz1, hS9, hc9⟩; have HLq : Hid (Lr w v v9 SB ca cn cc (t7 + 1 + 1) v.heap.size v7.heap.size ta n tc ga m gc ss gs) := HW3.out.draw hS9 hc9; have k1 := (cells2 HLq.out.box).2; have hc2 := l1Pick_any SB cn cc (t7 + 1 + 1) 3 3 ca (some ⟨v8.heap.size, 0, none⟩) l0 [1, 9, 0] w v9 (by omega) (by omega) (by omega) hcn HBA.out HLq.out.src (HIB3.out.chg1 hc9 (by omega)) (fun b off e => (by cases e; omega)); clear hS9 hc9)
          | ((have hq := hc2); clear hc2; (with_reducible refine hq.mono ?_); clear hq; rintro e v10 ⟨z2, rfl, hz2, hS10, hc10⟩; have HL10 : Hid (Lr w v v10 SB ca cn cc (t7 + 1 + 1 + 1) v.heap.size v7.heap.size ta n tc ga m gc ss gs) := HLq.out.draw hS10 hc10; have wz1 : (Lit.int .i64 z1).wf = true := wf_small (by simp at hz1; omega) (by simp at hz1; omega); have wz2 : (Lit.int .i64 z2).wf = true := wf_small (by simp at hz2; omega) (by simp at hz2; omega); have k9 := (cells2 HL10.out.box).2; have k10 := (cells2 (HL10.out.step (below_box (.cells #[.int .i64 z1, .int .i64 z2] 111))).box).2; obtain ⟨g, cap, w5, hrun, ⟨c3', f3'⟩, HLZ⟩ := HL10.out.moreG (p := z1) (q := z2) (by omega) wz1 wz2; obtain ⟨x0, x1⟩ := cells2 HLZ.out.box; obtain ⟨y0, y1⟩ := cells2 HLZ.out.res; have y2 := Joins.unfrozen_of_block HLZ.out.res 0; have y3 := Joins.unfrozen_of_block HLZ.out.res 1; clear hS10 hc10)))
    all_goals
      go_wp2
      (obtain ⟨j0, j1, j2⟩ := two_set HLZ.out.res (.slice ta n tc) (.slice (some ⟨g, 0, none⟩) (m + 1) cap); exact bodyPost_ret (v := .agg #[.slice ta n tc, .slice (some ⟨g, 0, none⟩) (m + 1) cap]) (by simp [results, Tryz.results19, go_sem, j0, j1]) rfl (HLZ.out.done (by omega) (by omega) (by omega)))

end Go.Proofs.YtagokfoimokniaaGreatDoor
