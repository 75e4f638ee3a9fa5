/- The specification's l3Draw keeps its contract. -/
import Derived.Test.YtciefdphjkjikaaGreatDoorFk
import Derived.Test.YtciefdphjkjikaaGreatDoorJa
import Derived.Test.YtciefdphjkjikaaGreatDoorJn4
import Derived.Deep.DeepCutAuto
namespace Go.Proofs.YtciefdphjkjikaaGreatDoor
open Go.RowKit Go.Shelf Go.Maps Go.WideMaps

theorem iatK5 (V : World) (a b c d e : Int) : IAt (V.alloc (.cells #[.int .i64 a, .int .i64 b, .int .i64 c, .int .i64 d, .int .i64 e] 2)) (some ⟨V.heap.size, 0, none⟩) 5 [a, b, c, d, e] :=
  ⟨rfl, .inr ⟨V.heap.size, 0, rfl, by simp, fun j hj => by
    have h := heap_alloc_new V (.cells #[.int .i64 a, .int .i64 b, .int .i64 c, .int .i64 d, .int .i64 e] 2)
    match j, hj with
    | 0, _ => unfold World.cell?; rw [h]; rfl
    | 1, _ => unfold World.cell?; rw [h]; rfl
    | 2, _ => unfold World.cell?; rw [h]; rfl
    | 3, _ => unfold World.cell?; rw [h]; rfl
    | 4, _ => unfold World.cell?; rw [h]; rfl⟩⟩
theorem owT_none {w v V : World} {SB : Nat} {ca : Option Addr} {cn cc t : Nat} (hS : Src w V SB ca cn cc t) (hc : Chg v V SB (SB + 1)) (hl : SB < v.heap.size) : OwT w v V SB ca cn cc t none 0 [] none 0 [] :=
  ⟨hS, hc, World.ownsRow_nil _ _ _ _, ⟨fun _ => .slice none 0 0, OOwn.none⟩, hl⟩
theorem TqD.gat {w v V : World} {SB : Nat} {ca : Option Addr} {cn cc t T : Nat} {k f : Int} {ia : Option Addr} {ic : Nat} {rs : List (Int × Int)} {oa : Option Addr} {oc : Nat} {os : List Ou} (H : TqD w v V SB ca cn cc t T k f ia ic rs oa oc os) : GAt V ia rs.length rs := by
  by_cases hn : rs.length = 0
  · exact ⟨rfl, .inl hn⟩
  obtain ⟨g, cap, e⟩ := Joins.ownsRow_form H.ref (by omega)
  have hr := H.ref
  cases e
  exact GAt.owned hr rfl
/-- What is told of a transaction's kind and member. -/
def KF (k f : Int) : Prop := (k = 0 ∨ k = 1 ∨ k = 2) ∧ (k = 0 ↔ f = 0) ∧ 0 ≤ f ∧ f ≤ 4
def KIns (rs : List (Int × Int)) : Prop := rs.Nodup ∧ ∀ r ∈ rs, (1 ≤ r.1 ∧ r.1 ≤ 6) ∧ 0 ≤ r.2 ∧ r.2 ≤ 1
def KOuts (os : List Ou) : Prop := ∀ o ∈ os, (100 ≤ o.v ∧ o.v ≤ 198) ∧ KR o.l o.x o.y
def KTx (k f : Int) (rs : List (Int × Int)) (os : List Ou) : Prop := KF k f ∧ ((1 ≤ rs.length ∧ rs.length ≤ 2) ∧ KIns rs) ∧ (1 ≤ os.length ∧ os.length ≤ 2) ∧ KOuts os
theorem ins_more {rs : List (Int × Int)} {p q : Int} (h : KIns rs) (hm : memB rs (p, q) = false) (hp : 1 ≤ p ∧ p ≤ 6) (hq : 0 ≤ q ∧ q ≤ 1) : KIns (rs ++ [(p, q)]) := by
  refine ⟨List.nodup_append.2 ⟨h.1, by simp, fun a ha b hb => ?_⟩, fun r hr => ?_⟩
  · simp only [List.mem_cons, List.not_mem_nil, or_false] at hb
    subst hb
    intro e
    subst e
    have := memB_iff.2 ha
    rw [hm] at this; cases this
  · rcases List.mem_append.1 hr with hr | hr
    · exact h.2 r hr
    · simp only [List.mem_cons, List.not_mem_nil, or_false] at hr
      subst hr; exact ⟨hp, hq⟩
theorem outs_moreF {os : List Ou} {r x y : Int} {l : List Int} (h : KOuts os) (hr : 100 ≤ r ∧ r ≤ 198) (hk : KR l x y) : KOuts (os ++ [⟨r, l, x, y⟩]) := fun o ho => by
  rcases List.mem_append.1 ho with ho | ho
  · exact h o ho
  · simp only [List.mem_cons, List.not_mem_nil, or_false] at ho
    subst ho; exact ⟨hr, hk⟩

set_option maxRecDepth 20000 in
set_option maxHeartbeats 8000000 in
theorem l3Draw_any (SB cn cc t : Nat) (ca : Option Addr) (l0 : List Int) (w v : World) (ht : t ≤ 700) (hcn : cn ≤ 1048576) (hB : BAt w ca cn l0) (h : Src w v SB ca cn cc t) :
    Calls Tryz.prog 17 #[.pointer (some ⟨SB, 0, none⟩)] v fun e v' => OutT w v SB ca cn cc (t + 30) e v' KTx := by
  have HBA : Hid (BAt w ca cn l0) := hB
  have hlt := h.lt
  have h0 := (h.step (below_box (.cells #[.int .i64 0, .int .i64 0, .slice none 0 0, .slice none 0 0] 28))).step (below_box (.cells #[.int .i64 0, .int .i64 0, .int .i64 0, .int .i64 1, .int .i64 2] 2))
  have HC0 : Hid (Chg (v.alloc (.cells #[.int .i64 0, .int .i64 0, .slice none 0 0, .slice none 0 0] 28)) ((v.alloc (.cells #[.int .i64 0, .int .i64 0, .slice none 0 0, .slice none 0 0] 28)).alloc (.cells #[.int .i64 0, .int .i64 0, .int .i64 0, .int .i64 1, .int .i64 2] 2)) SB (SB + 1)) := Chg.of_below (below_box _) _ _
  have h1 := l1Pick_any SB cn cc t 5 5 ca (some ⟨(v.alloc (.cells #[.int .i64 0, .int .i64 0, .slice none 0 0, .slice none 0 0] 28)).heap.size, 0, none⟩) l0 [0, 0, 0, 1, 2] w ((v.alloc (.cells #[.int .i64 0, .int .i64 0, .slice none 0 0, .slice none 0 0] 28)).alloc (.cells #[.int .i64 0, .int .i64 0, .int .i64 0, .int .i64 1, .int .i64 2] 2)) (by omega) (by omega) (by omega) hcn hB h0 (iatK5 _ 0 0 0 1 2) (fun b off e => by cases e; have := h.lt; simp; omega)
  have hz0 : (v.alloc (.cells #[.int .i64 0, .int .i64 0, .slice none 0 0, .slice none 0 0] 28)).heap.size = v.heap.size + 1 := by simp
  rw [hz0] at h1
  clear hB h h0 hz0
  go_enter Tryz.func17, Tryz.ntmps17
  go_upto_if 13 with (first
    | (go_at_call 20; (with_reducible refine h1.mono ?_); clear h1; rintro e v3 ⟨z, rfl, hz, hS3, hc3⟩; have HD3 : Hid (TqD w v (v3.alloc (.cells #[.int .i64 z, .int .i64 0, .slice none 0 0, .slice none 0 0] 28)) SB ca cn cc (t + 1) v3.heap.size z 0 none 0 [] none 0 []) := TqD.first (owT_none hS3 (HC0.out.trans hc3) (by simp; omega)) hlt; clear hS3 hc3; have hz3 : z = 0 ∨ z = 1 ∨ z = 2 := (by simp only [List.mem_cons, List.not_mem_nil, or_false] at hz; omega); clear hz; obtain ⟨p0, p1, p2, p3⟩ := HD3.out.cells))
  obtain ⟨T, hT⟩ : ∃ x, x = v3.heap.size := ⟨_, rfl⟩
  rw [← hT] at HD3 p0 p1 p2 p3 ⊢
  obtain ⟨V3, hV3⟩ : ∃ x, x = v3.alloc (.cells #[.int .i64 z, .int .i64 0, .slice none 0 0, .slice none 0 0] 28) := ⟨_, rfl⟩
  rw [← hV3] at HD3 p0 p1 p2 p3 ⊢
  clear hT hV3 HC0
  go_cut [3] (fun s wc => s = .pointer (some ⟨T, 0, none⟩) ∧ Hid (∃ (t1 : Nat) (f : Int), TqD w v wc SB ca cn cc t1 T z f none 0 [] none 0 [] ∧ KF z f ∧ t1 ≤ t + 2))
  case first =>
    by_cases hz0 : z = 0
    · have hzb : (z != 0) = false := by simp [hz0]
      go_wp2
      go_meet
      exact ⟨rfl, t + 1, 0, HD3.out, ⟨hz3, by omega, by omega, by omega⟩, by omega⟩
    · have hzb : (z != 0) = true := by simp [hz0]
      have hx := l1Next_any SB cn cc (t + 1) ca l0 4 w V3 (by omega) (by omega) hcn HBA.out HD3.out.b.src
      go_wp2_with (first
        | (go_at_call 19; (with_reducible refine hx.mono ?_); clear hx; rintro e v4 ⟨r, rfl, ⟨a4, b4⟩, hS4, hc4⟩; have b4' : r < 4 := b4 (by omega); clear b4; have hw4 := IntWalk.i64_in (1 + r) (by omega); have HD4 : Hid (TqD w v v4 SB ca cn cc (t + 1 + 1) T z 0 none 0 [] none 0 []) := HD3.out.draw hS4 hc4; obtain ⟨q0, q1, q2, q3⟩ := HD4.out.cells; have f1 := HD4.out.fz 1; clear hS4 hc4))
      go_meet
      exact ⟨rfl, t + 1 + 1, 1 + r, HD4.out.setf _, ⟨hz3, by omega, by omega, by omega⟩, by omega⟩
  case rest =>
    obtain ⟨rfl, hcut⟩ := hcut
    obtain ⟨t1, f, hD, hK, ht1⟩ := hcut.out
    have HD5 : Hid (TqD w v wc SB ca cn cc t1 T z f none 0 [] none 0 []) := hD
    have HK : Hid (KF z f) := hK
    clear hcut hD hK p0 p1 p2 p3 HD3
    have hx := l1Next_any SB cn cc t1 ca l0 2 w wc (by omega) (by omega) hcn HBA.out HD5.out.b.src
    go_wp2_with (first
      | (go_at_call 19; (with_reducible refine hx.mono ?_); clear hx; rintro e v6 ⟨r, rfl, ⟨a6, b6⟩, hS6, hc6⟩; have b6' : r < 2 := b6 (by omega); clear b6; have hw6 := IntWalk.i64_in (1 + r) (by omega); have HD6 : Hid (TqD w v v6 SB ca cn cc (t1 + 1) T z f none 0 [] none 0 []) := HD5.out.draw hS6 hc6; clear hS6 hc6))
    obtain ⟨k6, hk6⟩ : ∃ k : Nat, 1 + r = (k : Int) := ⟨(1 + r).toNat, by omega⟩
    rw [hk6]
    have hk6b : 1 ≤ k6 ∧ k6 ≤ 2 := by omega
    clear hk6 hw6 a6 b6' HD5
    go_loopw [4] (fun i wr => ∃ k : Nat, k ≤ 2 ∧ i = .int .i64 k ∧ Hid (∃ (t' : Nat) (ia : Option Addr) (ic : Nat) (rs : List (Int × Int)), TqD w v wr SB ca cn cc t' T z f ia ic rs none 0 [] ∧ rs.length + k ≤ 2 ∧ (rs.length = 0 → 1 ≤ k) ∧ KIns rs ∧ t' + 2 * k ≤ t + 7)) (fun i _ => (intOf i).toNat)
    case atStart => exact ⟨k6, by omega, rfl, t1 + 1, none, 0, [], HD6.out, by simp only [List.length_nil]; omega, (fun _ => by omega), ⟨List.nodup_nil, fun r hr => by cases hr⟩, by omega⟩
    case round =>
      obtain ⟨k, hk, rfl, HI⟩ := hrel
      obtain ⟨t', ia, ic, rs, hD, hl2, h0k, hKI, htk⟩ := HI.out
      have HD : Hid (TqD w v wr SB ca cn cc t' T z f ia ic rs none 0 []) := hD
      have HKI : Hid (KIns rs) := hKI
      clear HI hD hKI
      by_cases hk0 : 0 < k
      · obtain ⟨k', rfl⟩ : ∃ k', k = k' + 1 := ⟨k - 1, by omega⟩
        have hki : (0 : Int) < ((k' + 1 : Nat) : Int) := by omega
        have hx := l1Next_any SB cn cc t' ca l0 6 w wr (by omega) (by omega) hcn HBA.out HD.out.b.src
        go_upto_if 35 with (first
          | (go_at_call 19; have hq := hx; clear hx; (with_reducible refine hq.mono ?_); clear hq; rintro e v7 ⟨r7, rfl, ⟨a7, b7⟩, hS7, hc7⟩; have b7' : r7 < 6 := b7 (by omega); clear b7; have hw7 := IntWalk.i64_in (1 + r7) (by omega); have HD7 : Hid (TqD w v v7 SB ca cn cc (t' + 1) T z f ia ic rs none 0 []) := HD.out.draw hS7 hc7; have hx2 := l1Next_any SB cn cc (t' + 1) ca l0 2 w v7 (by omega) (by omega) hcn HBA.out HD7.out.b.src; clear hS7 hc7)
          | (go_at_call 19; have hq := hx2; clear hx2; (with_reducible refine hq.mono ?_); clear hq; rintro e v8 ⟨r8, rfl, ⟨a8, b8⟩, hS8, hc8⟩; have b8' : r8 < 2 := b8 (by omega); clear b8; have HD9 : Hid (TqD w v (v8.alloc (.cells #[.int .i64 (1 + r7), .int .i64 r8] 65)) SB ca cn cc (t' + 1 + 1) T z f ia ic rs none 0 []) := (HD7.out.draw hS8 hc8).step (below_box _); obtain ⟨c0, c1, c2, c3⟩ := HD9.out.cells; have ham := l3Among_any ia rs.length ic rs (1 + r7) r8 (v8.alloc (.cells #[.int .i64 (1 + r7), .int .i64 r8] 65)) (by unfold maxLen; omega) HD9.out.gat; obtain ⟨mb, hmb⟩ : ∃ b, b = memB rs (1 + r7, r8) := ⟨_, rfl⟩; rw [← hmb] at ham; have HMB : Hid (memB rs (1 + r7, r8) = mb) := hmb.symm; clear hmb hS8 hc8)
          | (go_at_call 36; (with_reducible refine ham.mono ?_); clear ham; rintro e v9 ⟨rfl, hb9⟩; have HD10 : Hid (TqD w v v9 SB ca cn cc (t' + 1 + 1) T z f ia ic rs none 0 []) := HD9.out.step hb9; have z0 : v9.cell? ⟨v8.heap.size, 0, none⟩ = some (.int .i64 (1 + r7)) := (hb9.cell (p := ⟨v8.heap.size, 0, none⟩) (by simp)).trans (cells2 (heap_alloc_new v8 (.cells #[.int .i64 (1 + r7), .int .i64 r8] 65))).1; have z1 : v9.cell? ⟨v8.heap.size, 1, none⟩ = some (.int .i64 r8) := (hb9.cell (p := ⟨v8.heap.size, 1, none⟩) (by simp)).trans (cells2 (heap_alloc_new v8 (.cells #[.int .i64 (1 + r7), .int .i64 r8] 65))).2; clear c0 c1 c2 c3; obtain ⟨c0, c1, c2, c3⟩ := HD10.out.cells))
        cases mb
        · obtain ⟨g, cap, w5, hrun, ⟨k2, f2⟩, HD11⟩ := HD10.out.moreR (1 + r7) r8 (by omega)
          have HKN : Hid (KIns (rs ++ [(1 + r7, r8)])) := ins_more HKI.out HMB.out (by omega) (by omega)
          go_wp2_with (first
            | (at_builtin; go_must (refine wpList_append_runC (by rfl) _ _ _ (by rfl) (by rfl) (by rfl) hrun ?_); clear hrun))
          go_roundw
          case rel => exact ⟨k', by omega, by go_num, t' + 1 + 1, _, _, rs ++ [(1 + r7, r8)], HD11.out, by simp only [List.length_append, List.length_cons, List.length_nil]; omega, (fun e => by simp at e), HKN.out, by omega⟩
          case measure => simp [intOf]
        · go_wp2
          go_roundw
          case rel => exact ⟨k', by omega, by go_num, t' + 1 + 1, _, _, rs, HD10.out, by omega, (fun e => (by
            have := HMB.out
            rw [List.length_eq_zero_iff.1 e] at this
            cases this)), HKI.out, by omega⟩
          case measure => simp [intOf]
      · obtain rfl : k = 0 := by omega
        have hn1 : 1 ≤ rs.length := by omega
        clear HD6
        have HTK : Hid (t' ≤ t + 7) := by show t' ≤ t + 7; omega
        have hx := l1Next_any SB cn cc t' ca l0 2 w wr (by omega) (by omega) hcn HBA.out HD.out.b.src
        go_wp2_with (first
          | (go_at_call 19; (with_reducible refine hx.mono ?_); clear hx; rintro e v6' ⟨r, rfl, ⟨a6, b6⟩, hS6, hc6⟩; have b6' : r < 2 := b6 (by omega); clear b6; have hw6 := IntWalk.i64_in (1 + r) (by omega); have HD6 : Hid (TqD w v v6' SB ca cn cc (t' + 1) T z f ia ic rs none 0 []) := HD.out.draw hS6 hc6; clear hS6 hc6))
        obtain ⟨k6', hk6⟩ : ∃ k : Nat, 1 + r = (k : Int) := ⟨(1 + r).toNat, by omega⟩
        rw [hk6]
        have hk6b' : 1 ≤ k6' ∧ k6' ≤ 2 := by omega
        clear hk6 hw6 a6 b6' HD
        go_loopw [6] (fun i wr' => ∃ k : Nat, k ≤ 2 ∧ i = .int .i64 k ∧ Hid (∃ (t2 : Nat) (oa : Option Addr) (oc : Nat) (os : List Ou), TqD w v wr' SB ca cn cc t2 T z f ia ic rs oa oc os ∧ os.length + k ≤ 2 ∧ (os.length = 0 → 1 ≤ k) ∧ KOuts os ∧ t2 + 8 * k ≤ t + 26)) (fun i _ => (intOf i).toNat)
        case atStart => exact ⟨k6', by omega, rfl, t' + 1, none, 0, [], HD6.out, by simp only [List.length_nil]; omega, (fun _ => by omega), (fun o ho => by cases ho), by have := HTK.out; omega⟩
        case round =>
          obtain ⟨k, hk, rfl, HI⟩ := hrel
          obtain ⟨t2, oa, oc, os, hD, ho2, h0k2, hKO, htk2⟩ := HI.out
          have HE : Hid (TqD w v wr SB ca cn cc t2 T z f ia ic rs oa oc os) := hD
          have HKO : Hid (KOuts os) := hKO
          clear HI hD hKO
          by_cases hk0 : 0 < k
          · obtain ⟨k', rfl⟩ : ∃ k', k = k' + 1 := ⟨k - 1, by omega⟩
            have hki : (0 : Int) < ((k' + 1 : Nat) : Int) := by omega
            have HEd : Hid (TqD w v wr.drew SB ca cn cc t2 T z f ia ic rs oa oc os) := HE.out.step (Below.refl _ _).drew
            have hx := l1Next_any SB cn cc t2 ca l0 99 w wr.drew (by omega) (by omega) hcn HBA.out HEd.out.b.src
            obtain ⟨c0, c1, c2, c3⟩ := HEd.out.cells
            obtain ⟨d0, d1, d2, d3⟩ := HE.out.cells
            go_wp2
            go_region_law (first
              | (refine step_append_run (by rfl) _ _ _ (by rfl) (by rfl) (by rfl) hrun ?_)
              | (rw [if_pos (by rfl)]; go_simp; go_at_call 19; (with_reducible refine hx.mono ?_); clear hx; rintro e v7 ⟨r7, rfl, ⟨a7, b7⟩, hS7, hc7⟩; have b7' : r7 < 99 := b7 (by omega); clear b7; have hw7 := IntWalk.i64_in (100 + r7) (by omega); have HE7 : Hid (TqD w v v7 SB ca cn cc (t2 + 1) T z f ia ic rs oa oc os) := HEd.out.draw hS7 hc7; obtain ⟨e0, e1, e2, e3⟩ := HE7.out.cells; have hx2 := l2Draw_any SB cn cc (t2 + 1) ca l0 w v7 (by omega) hcn HBA.out HE7.out.b.src; clear hS7 hc7)
              | (rw [if_pos (by rfl)]; go_simp; go_at_call 37; (with_reducible refine hx2.mono ?_); clear hx2; rintro e v8 ⟨l, x, y, ka, kc, t4, rfl, HR4, HK4, ht4, HS4, HC4⟩; have HE8 : Hid (TqD w v v8 SB ca cn cc t4 T z f ia ic rs oa oc os) := HE7.out.draw HS4.out HC4.out; obtain ⟨i0, i1, i2, i3⟩ := HE8.out.cells; obtain ⟨j0, j1, j2, j3⟩ := (HE8.out.step (below_box (.cells #[.int .i64 (100 + r7), .slice ka l.length kc, .int .i64 x, .int .i64 y] 44))).cells; obtain ⟨g, cap, w5, hrun, ⟨k2, f2⟩, HE9⟩ := HE7.out.moreO (x := x) (y := y) HS4.out HC4.out HR4.out (100 + r7) (by omega)))
            all_goals go_wp2
            all_goals
              go_roundw
              case rel => exact ⟨k', by omega, by go_num, t4, _, _, os ++ [⟨100 + r7, l, x, y⟩], HE9.out, by simp only [List.length_append, List.length_cons, List.length_nil]; omega, (fun e => by simp at e), outs_moreF HKO.out (by omega) HK4.out, by omega⟩
              case measure => simp [intOf]
          · obtain rfl : k = 0 := by omega
            have hn2 : 1 ≤ os.length := by omega
            obtain ⟨c0, c1, c2, c3⟩ := HE.out.cells
            obtain ⟨r0, r1, r2, r3, r4, r5, r6, r7⟩ := cells4 HE.out.b.res
            go_wp2
            obtain ⟨j0, j1, j2, j3⟩ := four_set HE.out.b.res (.int .i64 z) (.int .i64 f) (.slice ia rs.length ic) (.slice oa os.length oc)
            refine bodyPost_ret (v := .agg #[.int .i64 z, .int .i64 f, .slice ia rs.length ic, .slice oa os.length oc]) (by simp [results, Tryz.results17, go_sem, j0, j1, j2, j3]) rfl ?_
            exact HE.out.ret (by omega) ⟨HK.out, ⟨⟨hn1, by omega⟩, HKI.out⟩, ⟨hn2, by omega⟩, HKO.out⟩ rfl _ _ _ _

end Go.Proofs.YtciefdphjkjikaaGreatDoor
