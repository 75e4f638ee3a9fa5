/- The specification's l3Draw keeps its contract. A frame in the midst of a drawn region, told by its slots alone. Rules that are drawn and bent: whatever the bytes, some rule, its keys in memory of its own. The specification's l3Bent keeps its contract. A coin is taken out of the purse. The coins of a purse come, each once, in some order, and are gathered in a row of their own. Has the purse a coin of a transaction? The program puts the coins of a transaction into its purse. The program's putOuts keeps its contract. -/
import Derived.Test.YtagokfoimokniaaGreatDoorJn6
import Derived.Deep.DeepCutAuto
import Derived.Test.YtagokfoimokniaaGreatDoorJn4
import Derived.Test.YtagokfoimokniaaGreatDoorJn1
import Derived.Test.YtagokfoimokniaaGreatDoorJn3
import Derived.Test.YtagokfoimokniaaGreatDoorJn5
import Derived.RangeFuncNested
import Derived.RangeFuncBound
import Derived.RangeFuncCalls
import Derived.RangeFuncLeaves
import Derived.RangeFuncBox
import Derived.RangeFuncWrites
import Derived.Shelf.Abstract
import Derived.Shelf.RegionOpen
import Derived.WalkKit
import Derived.OwnWalkIn
import Derived.TacticsInMore
import Derived.LoopNIn
import Derived.LoopIn
import Derived.Maps.OwnIn
import Derived.Maps.AppendAt
import Derived.Maps.RangeWalk
namespace Go.Proofs.YtagokfoimokniaaGreatDoor
open Go.RowKit Go.Shelf Go.Maps Go.WideMaps

theorem iatK5 (V : World) (a b c d e : Int) : IAt (V.alloc (.cells #[.int .i64 a, .int .i64 b, .int .i64 c, .int .i64 d, .int .i64 e] 2)) (some ⟨V.heap.size, 0, none⟩) 5 [a, b, c, d, e] :=
  ⟨rfl, .inr ⟨V.heap.size, 0, rfl, by simp, fun j hj => by
    have h := heap_alloc_new V (.cells #[.int .i64 a, .int .i64 b, .int .i64 c, .int .i64 d, .int .i64 e] 2)
    match j, hj with
    | 0, _ => unfold World.cell?; rw [h]; rfl
    | 1, _ => unfold World.cell?; rw [h]; rfl
    | 2, _ => unfold World.cell?; rw [h]; rfl
    | 3, _ => unfold World.cell?; rw [h]; rfl
    | 4, _ => unfold World.cell?; rw [h]; rfl⟩⟩
theorem owT_none {w v V : World} {SB : Nat} {ca : Option Addr} {cn cc t : Nat} (hS : Src w V SB ca cn cc t) (hc : Chg v V SB (SB + 1)) (hl : SB < v.heap.size) : OwT w v V SB ca cn cc t none 0 [] none 0 [] :=
  ⟨hS, hc, World.ownsRow_nil _ _ _ _, ⟨fun _ => .slice none 0 0, OOwn.none⟩, hl⟩
theorem TqD.gat {w v V : World} {SB : Nat} {ca : Option Addr} {cn cc t T : Nat} {k f : Int} {ia : Option Addr} {ic : Nat} {rs : List (Int × Int)} {oa : Option Addr} {oc : Nat} {os : List Ou} (H : TqD w v V SB ca cn cc t T k f ia ic rs oa oc os) : GAt V ia rs.length rs := by
  by_cases hn : rs.length = 0
  · exact ⟨rfl, .inl hn⟩
  obtain ⟨g, cap, e⟩ := Joins.ownsRow_form H.ref (by omega)
  have hr := H.ref
  cases e
  exact GAt.owned hr rfl
/-- What is told of a transaction's kind and member. -/
def KF (k f : Int) : Prop := (k = 0 ∨ k = 1 ∨ k = 2) ∧ (k = 0 ↔ f = 0) ∧ 0 ≤ f ∧ f ≤ 4
def KIns (rs : List (Int × Int)) : Prop := rs.Nodup ∧ ∀ r ∈ rs, (1 ≤ r.1 ∧ r.1 ≤ 6) ∧ 0 ≤ r.2 ∧ r.2 ≤ 1
def KOuts (os : List Ou) : Prop := ∀ o ∈ os, (100 ≤ o.v ∧ o.v ≤ 198) ∧ KR o.l o.x o.y
def KTx (k f : Int) (rs : List (Int × Int)) (os : List Ou) : Prop := KF k f ∧ ((1 ≤ rs.length ∧ rs.length ≤ 2) ∧ KIns rs) ∧ (1 ≤ os.length ∧ os.length ≤ 2) ∧ KOuts os
theorem ins_more {rs : List (Int × Int)} {p q : Int} (h : KIns rs) (hm : memB rs (p, q) = false) (hp : 1 ≤ p ∧ p ≤ 6) (hq : 0 ≤ q ∧ q ≤ 1) : KIns (rs ++ [(p, q)]) := by
  refine ⟨List.nodup_append.2 ⟨h.1, by simp, fun a ha b hb => ?_⟩, fun r hr => ?_⟩
  · simp only [List.mem_cons, List.not_mem_nil, or_false] at hb
    subst hb
    intro e
    subst e
    have := memB_iff.2 ha
    rw [hm] at this; cases this
  · rcases List.mem_append.1 hr with hr | hr
    · exact h.2 r hr
    · simp only [List.mem_cons, List.not_mem_nil, or_false] at hr
      subst hr; exact ⟨hp, hq⟩
theorem outs_moreF {os : List Ou} {r x y : Int} {l : List Int} (h : KOuts os) (hr : 100 ≤ r ∧ r ≤ 198) (hk : KR l x y) : KOuts (os ++ [⟨r, l, x, y⟩]) := fun o ho => by
  rcases List.mem_append.1 ho with ho | ho
  · exact h o ho
  · simp only [List.mem_cons, List.not_mem_nil, or_false] at ho
    subst ho; exact ⟨hr, hk⟩

set_option maxRecDepth 20000 in
set_option maxHeartbeats 8000000 in
theorem l3Draw_any (SB cn cc t : Nat) (ca : Option Addr) (l0 : List Int) (w v : World) (ht : t ≤ 700) (hcn : cn ≤ 1048577) (hB : BAt w ca cn l0) (h : Src w v SB ca cn cc t) :
    Calls Tryz.prog 52 #[.pointer (some ⟨SB, 0, none⟩)] v fun e v' => OutT w v SB ca cn cc (t + 30) e v' KTx := by
  have HBA : Hid (BAt w ca cn l0) := hB
  have hlt := h.lt
  have h0 := (h.step (below_box (.cells #[.int .i64 0, .int .i64 0, .slice none 0 0, .slice none 0 0] 32))).step (below_box (.cells #[.int .i64 0, .int .i64 0, .int .i64 0, .int .i64 1, .int .i64 2] 2))
  have HC0 : Hid (Chg (v.alloc (.cells #[.int .i64 0, .int .i64 0, .slice none 0 0, .slice none 0 0] 32)) ((v.alloc (.cells #[.int .i64 0, .int .i64 0, .slice none 0 0, .slice none 0 0] 32)).alloc (.cells #[.int .i64 0, .int .i64 0, .int .i64 0, .int .i64 1, .int .i64 2] 2)) SB (SB + 1)) := Chg.of_below (below_box _) _ _
  have h1 := l1Pick_any SB cn cc t 5 5 ca (some ⟨(v.alloc (.cells #[.int .i64 0, .int .i64 0, .slice none 0 0, .slice none 0 0] 32)).heap.size, 0, none⟩) l0 [0, 0, 0, 1, 2] w ((v.alloc (.cells #[.int .i64 0, .int .i64 0, .slice none 0 0, .slice none 0 0] 32)).alloc (.cells #[.int .i64 0, .int .i64 0, .int .i64 0, .int .i64 1, .int .i64 2] 2)) (by omega) (by omega) (by omega) hcn hB h0 (iatK5 _ 0 0 0 1 2) (fun b off e => by cases e; have := h.lt; simp; omega)
  have hz0 : (v.alloc (.cells #[.int .i64 0, .int .i64 0, .slice none 0 0, .slice none 0 0] 32)).heap.size = v.heap.size + 1 := by simp
  rw [hz0] at h1
  clear hB h h0 hz0
  go_enter Tryz.func52, Tryz.ntmps52
  go_upto_if 13 with (first
    | (go_at_call 22; (with_reducible refine h1.mono ?_); clear h1; rintro e v3 ⟨z, rfl, hz, hS3, hc3⟩; have HD3 : Hid (TqD w v (v3.alloc (.cells #[.int .i64 z, .int .i64 0, .slice none 0 0, .slice none 0 0] 32)) SB ca cn cc (t + 1) v3.heap.size z 0 none 0 [] none 0 []) := TqD.first (owT_none hS3 (HC0.out.trans hc3) (by simp; omega)) hlt; clear hS3 hc3; have hz3 : z = 0 ∨ z = 1 ∨ z = 2 := (by simp only [List.mem_cons, List.not_mem_nil, or_false] at hz; omega); clear hz; obtain ⟨p0, p1, p2, p3⟩ := HD3.out.cells))
  obtain ⟨T, hT⟩ : ∃ x, x = v3.heap.size := ⟨_, rfl⟩
  rw [← hT] at HD3 p0 p1 p2 p3 ⊢
  obtain ⟨V3, hV3⟩ : ∃ x, x = v3.alloc (.cells #[.int .i64 z, .int .i64 0, .slice none 0 0, .slice none 0 0] 32) := ⟨_, rfl⟩
  rw [← hV3] at HD3 p0 p1 p2 p3 ⊢
  clear hT hV3 HC0
  go_cut [3] (fun s wc => s = .pointer (some ⟨T, 0, none⟩) ∧ Hid (∃ (t1 : Nat) (f : Int), TqD w v wc SB ca cn cc t1 T z f none 0 [] none 0 [] ∧ KF z f ∧ t1 ≤ t + 2))
  case first =>
    by_cases hz0 : z = 0
    · have hzb : (z != 0) = false := by simp [hz0]
      go_wp2
      go_meet
      exact ⟨rfl, t + 1, 0, HD3.out, ⟨hz3, by omega, by omega, by omega⟩, by omega⟩
    · have hzb : (z != 0) = true := by simp [hz0]
      have hx := l1Next_any SB cn cc (t + 1) ca l0 4 w V3 (by omega) (by omega) hcn HBA.out HD3.out.b.src
      go_wp2_with (first
        | (go_at_call 18; (with_reducible refine hx.mono ?_); clear hx; rintro e v4 ⟨r, rfl, ⟨a4, b4⟩, hS4, hc4⟩; have b4' : r < 4 := b4 (by omega); clear b4; have hw4 := IntWalk.i64_in (1 + r) (by omega); have HD4 : Hid (TqD w v v4 SB ca cn cc (t + 1 + 1) T z 0 none 0 [] none 0 []) := HD3.out.draw hS4 hc4; obtain ⟨q0, q1, q2, q3⟩ := HD4.out.cells; have f1 := HD4.out.fz 1; clear hS4 hc4))
      go_meet
      exact ⟨rfl, t + 1 + 1, 1 + r, HD4.out.setf _, ⟨hz3, by omega, by omega, by omega⟩, by omega⟩
  case rest =>
    obtain ⟨rfl, hcut⟩ := hcut
    obtain ⟨t1, f, hD, hK, ht1⟩ := hcut.out
    have HD5 : Hid (TqD w v wc SB ca cn cc t1 T z f none 0 [] none 0 []) := hD
    have HK : Hid (KF z f) := hK
    clear hcut hD hK p0 p1 p2 p3 HD3
    have hx := l1Next_any SB cn cc t1 ca l0 2 w wc (by omega) (by omega) hcn HBA.out HD5.out.b.src
    go_wp2_with (first
      | (go_at_call 18; (with_reducible refine hx.mono ?_); clear hx; rintro e v6 ⟨r, rfl, ⟨a6, b6⟩, hS6, hc6⟩; have b6' : r < 2 := b6 (by omega); clear b6; have hw6 := IntWalk.i64_in (1 + r) (by omega); have HD6 : Hid (TqD w v v6 SB ca cn cc (t1 + 1) T z f none 0 [] none 0 []) := HD5.out.draw hS6 hc6; clear hS6 hc6))
    obtain ⟨k6, hk6⟩ : ∃ k : Nat, 1 + r = (k : Int) := ⟨(1 + r).toNat, by omega⟩
    rw [hk6]
    have hk6b : 1 ≤ k6 ∧ k6 ≤ 2 := by omega
    clear hk6 hw6 a6 b6' HD5
    go_loopw [4] (fun i wr => ∃ k : Nat, k ≤ 2 ∧ i = .int .i64 k ∧ Hid (∃ (t' : Nat) (ia : Option Addr) (ic : Nat) (rs : List (Int × Int)), TqD w v wr SB ca cn cc t' T z f ia ic rs none 0 [] ∧ rs.length + k ≤ 2 ∧ (rs.length = 0 → 1 ≤ k) ∧ KIns rs ∧ t' + 2 * k ≤ t + 7)) (fun i _ => (intOf i).toNat)
    case atStart => exact ⟨k6, by omega, rfl, t1 + 1, none, 0, [], HD6.out, by simp only [List.length_nil]; omega, (fun _ => by omega), ⟨List.nodup_nil, fun r hr => by cases hr⟩, by omega⟩
    case round =>
      obtain ⟨k, hk, rfl, HI⟩ := hrel
      obtain ⟨t', ia, ic, rs, hD, hl2, h0k, hKI, htk⟩ := HI.out
      have HD : Hid (TqD w v wr SB ca cn cc t' T z f ia ic rs none 0 []) := hD
      have HKI : Hid (KIns rs) := hKI
      clear HI hD hKI
      by_cases hk0 : 0 < k
      · obtain ⟨k', rfl⟩ : ∃ k', k = k' + 1 := ⟨k - 1, by omega⟩
        have hki : (0 : Int) < ((k' + 1 : Nat) : Int) := by omega
        have hx := l1Next_any SB cn cc t' ca l0 6 w wr (by omega) (by omega) hcn HBA.out HD.out.b.src
        go_upto_if 35 with (first
          | (go_at_call 18; have hq := hx; clear hx; (with_reducible refine hq.mono ?_); clear hq; rintro e v7 ⟨r7, rfl, ⟨a7, b7⟩, hS7, hc7⟩; have b7' : r7 < 6 := b7 (by omega); clear b7; have hw7 := IntWalk.i64_in (1 + r7) (by omega); have HD7 : Hid (TqD w v v7 SB ca cn cc (t' + 1) T z f ia ic rs none 0 []) := HD.out.draw hS7 hc7; have hx2 := l1Next_any SB cn cc (t' + 1) ca l0 2 w v7 (by omega) (by omega) hcn HBA.out HD7.out.b.src; clear hS7 hc7)
          | (go_at_call 18; have hq := hx2; clear hx2; (with_reducible refine hq.mono ?_); clear hq; rintro e v8 ⟨r8, rfl, ⟨a8, b8⟩, hS8, hc8⟩; have b8' : r8 < 2 := b8 (by omega); clear b8; have HD9 : Hid (TqD w v (v8.alloc (.cells #[.int .i64 (1 + r7), .int .i64 r8] 47)) SB ca cn cc (t' + 1 + 1) T z f ia ic rs none 0 []) := (HD7.out.draw hS8 hc8).step (below_box _); obtain ⟨c0, c1, c2, c3⟩ := HD9.out.cells; have ham := l3Among_any ia rs.length ic rs (1 + r7) r8 (v8.alloc (.cells #[.int .i64 (1 + r7), .int .i64 r8] 47)) (by unfold maxLen; omega) HD9.out.gat; obtain ⟨mb, hmb⟩ : ∃ b, b = memB rs (1 + r7, r8) := ⟨_, rfl⟩; rw [← hmb] at ham; have HMB : Hid (memB rs (1 + r7, r8) = mb) := hmb.symm; clear hmb hS8 hc8)
          | (go_at_call 65; (with_reducible refine ham.mono ?_); clear ham; rintro e v9 ⟨rfl, hb9⟩; have HD10 : Hid (TqD w v v9 SB ca cn cc (t' + 1 + 1) T z f ia ic rs none 0 []) := HD9.out.step hb9; have z0 : v9.cell? ⟨v8.heap.size, 0, none⟩ = some (.int .i64 (1 + r7)) := (hb9.cell (p := ⟨v8.heap.size, 0, none⟩) (by simp)).trans (cells2 (heap_alloc_new v8 (.cells #[.int .i64 (1 + r7), .int .i64 r8] 47))).1; have z1 : v9.cell? ⟨v8.heap.size, 1, none⟩ = some (.int .i64 r8) := (hb9.cell (p := ⟨v8.heap.size, 1, none⟩) (by simp)).trans (cells2 (heap_alloc_new v8 (.cells #[.int .i64 (1 + r7), .int .i64 r8] 47))).2; clear c0 c1 c2 c3; obtain ⟨c0, c1, c2, c3⟩ := HD10.out.cells))
        cases mb
        · obtain ⟨g, cap, w5, hrun, ⟨k2, f2⟩, HD11⟩ := HD10.out.moreR (1 + r7) r8 (by omega)
          have HKN : Hid (KIns (rs ++ [(1 + r7, r8)])) := ins_more HKI.out HMB.out (by omega) (by omega)
          go_wp2_with (first
            | (at_builtin; go_must (refine wpList_append_runC (by rfl) _ _ _ (by rfl) (by rfl) (by rfl) hrun ?_); clear hrun))
          go_roundw
          case rel => exact ⟨k', by omega, by go_num, t' + 1 + 1, _, _, rs ++ [(1 + r7, r8)], HD11.out, by simp only [List.length_append, List.length_cons, List.length_nil]; omega, (fun e => by simp at e), HKN.out, by omega⟩
          case measure => simp [intOf]
        · go_wp2
          go_roundw
          case rel => exact ⟨k', by omega, by go_num, t' + 1 + 1, _, _, rs, HD10.out, by omega, (fun e => (by
            have := HMB.out
            rw [List.length_eq_zero_iff.1 e] at this
            cases this)), HKI.out, by omega⟩
          case measure => simp [intOf]
      · obtain rfl : k = 0 := by omega
        have hn1 : 1 ≤ rs.length := by omega
        clear HD6
        have HTK : Hid (t' ≤ t + 7) := by show t' ≤ t + 7; omega
        have hx := l1Next_any SB cn cc t' ca l0 2 w wr (by omega) (by omega) hcn HBA.out HD.out.b.src
        go_wp2_with (first
          | (go_at_call 18; (with_reducible refine hx.mono ?_); clear hx; rintro e v6' ⟨r, rfl, ⟨a6, b6⟩, hS6, hc6⟩; have b6' : r < 2 := b6 (by omega); clear b6; have hw6 := IntWalk.i64_in (1 + r) (by omega); have HD6 : Hid (TqD w v v6' SB ca cn cc (t' + 1) T z f ia ic rs none 0 []) := HD.out.draw hS6 hc6; clear hS6 hc6))
        obtain ⟨k6', hk6⟩ : ∃ k : Nat, 1 + r = (k : Int) := ⟨(1 + r).toNat, by omega⟩
        rw [hk6]
        have hk6b' : 1 ≤ k6' ∧ k6' ≤ 2 := by omega
        clear hk6 hw6 a6 b6' HD
        go_loopw [6] (fun i wr' => ∃ k : Nat, k ≤ 2 ∧ i = .int .i64 k ∧ Hid (∃ (t2 : Nat) (oa : Option Addr) (oc : Nat) (os : List Ou), TqD w v wr' SB ca cn cc t2 T z f ia ic rs oa oc os ∧ os.length + k ≤ 2 ∧ (os.length = 0 → 1 ≤ k) ∧ KOuts os ∧ t2 + 8 * k ≤ t + 26)) (fun i _ => (intOf i).toNat)
        case atStart => exact ⟨k6', by omega, rfl, t' + 1, none, 0, [], HD6.out, by simp only [List.length_nil]; omega, (fun _ => by omega), (fun o ho => by cases ho), by have := HTK.out; omega⟩
        case round =>
          obtain ⟨k, hk, rfl, HI⟩ := hrel
          obtain ⟨t2, oa, oc, os, hD, ho2, h0k2, hKO, htk2⟩ := HI.out
          have HE : Hid (TqD w v wr SB ca cn cc t2 T z f ia ic rs oa oc os) := hD
          have HKO : Hid (KOuts os) := hKO
          clear HI hD hKO
          by_cases hk0 : 0 < k
          · obtain ⟨k', rfl⟩ : ∃ k', k = k' + 1 := ⟨k - 1, by omega⟩
            have hki : (0 : Int) < ((k' + 1 : Nat) : Int) := by omega
            have HEd : Hid (TqD w v wr.drew SB ca cn cc t2 T z f ia ic rs oa oc os) := HE.out.step (Below.refl _ _).drew
            have hx := l1Next_any SB cn cc t2 ca l0 99 w wr.drew (by omega) (by omega) hcn HBA.out HEd.out.b.src
            obtain ⟨c0, c1, c2, c3⟩ := HEd.out.cells
            obtain ⟨d0, d1, d2, d3⟩ := HE.out.cells
            go_wp2
            go_region_law (first
              | (refine step_append_run (by rfl) _ _ _ (by rfl) (by rfl) (by rfl) hrun ?_)
              | (rw [if_pos (by rfl)]; go_simp; go_at_call 18; (with_reducible refine hx.mono ?_); clear hx; rintro e v7 ⟨r7, rfl, ⟨a7, b7⟩, hS7, hc7⟩; have b7' : r7 < 99 := b7 (by omega); clear b7; have hw7 := IntWalk.i64_in (100 + r7) (by omega); have HE7 : Hid (TqD w v v7 SB ca cn cc (t2 + 1) T z f ia ic rs oa oc os) := HEd.out.draw hS7 hc7; obtain ⟨e0, e1, e2, e3⟩ := HE7.out.cells; have hx2 := l2Draw_any SB cn cc (t2 + 1) ca l0 w v7 (by omega) hcn HBA.out HE7.out.b.src; clear hS7 hc7)
              | (rw [if_pos (by rfl)]; go_simp; go_at_call 103; (with_reducible refine hx2.mono ?_); clear hx2; rintro e v8 ⟨l, x, y, ka, kc, t4, rfl, HR4, HK4, ht4, HS4, HC4⟩; have HE8 : Hid (TqD w v v8 SB ca cn cc t4 T z f ia ic rs oa oc os) := HE7.out.draw HS4.out HC4.out; obtain ⟨i0, i1, i2, i3⟩ := HE8.out.cells; obtain ⟨j0, j1, j2, j3⟩ := (HE8.out.step (below_box (.cells #[.int .i64 (100 + r7), .slice ka l.length kc, .int .i64 x, .int .i64 y] 52))).cells; obtain ⟨g, cap, w5, hrun, ⟨k2, f2⟩, HE9⟩ := HE7.out.moreO (x := x) (y := y) HS4.out HC4.out HR4.out (100 + r7) (by omega)))
            all_goals go_wp2
            all_goals
              go_roundw
              case rel => exact ⟨k', by omega, by go_num, t4, _, _, os ++ [⟨100 + r7, l, x, y⟩], HE9.out, by simp only [List.length_append, List.length_cons, List.length_nil]; omega, (fun e => by simp at e), outs_moreF HKO.out (by omega) HK4.out, by omega⟩
              case measure => simp [intOf]
          · obtain rfl : k = 0 := by omega
            have hn2 : 1 ≤ os.length := by omega
            obtain ⟨c0, c1, c2, c3⟩ := HE.out.cells
            obtain ⟨r0, r1, r2, r3, r4, r5, r6, r7⟩ := cells4 HE.out.b.res
            go_wp2
            obtain ⟨j0, j1, j2, j3⟩ := four_set HE.out.b.res (.int .i64 z) (.int .i64 f) (.slice ia rs.length ic) (.slice oa os.length oc)
            refine bodyPost_ret (v := .agg #[.int .i64 z, .int .i64 f, .slice ia rs.length ic, .slice oa os.length oc]) (by simp [results, Tryz.results52, go_sem, j0, j1, j2, j3]) rfl ?_
            exact HE.out.ret (by omega) ⟨HK.out, ⟨⟨hn1, by omega⟩, HKI.out⟩, ⟨hn2, by omega⟩, HKO.out⟩ rfl _ _ _ _

end Go.Proofs.YtagokfoimokniaaGreatDoor

namespace Go.Proofs.YtagokfoimokniaaGreatDoor
open Go.RowKit

/-- Of the slots sl those that are done hold what xs says. -/
structure Fr (n : Nat) (sl : List (Option Nat)) (bs : List Bool) (xs : List Value) (a : Act) : Prop where
  hd : a.defers = []
  hs : a.tmps.size = n
  lb : bs.length = sl.length
  lx : xs.length = sl.length
  get : ∀ i d : Nat, sl[i]? = some (some d) → bs[i]? = some true → a.tmps[d]? = xs[i]?
def putB (n : Nat) (sl : List (Option Nat)) (i d : Nat) : Bool :=
  decide (sl[i]? = some (some d)) && decide (d < n) && (List.range sl.length).all fun j => j == i || decide (sl[j]? ≠ some (some d))
theorem Fr.put {n : Nat} {sl : List (Option Nat)} {bs : List Bool} {xs : List Value} {a : Act} (H : Fr n sl bs xs a) (i d : Nat) {v : Value} (h : putB n sl i d = true) : Fr n sl (bs.set i true) (xs.set i v) (a.put (some d) v) := by
  simp only [putB, Bool.and_eq_true, decide_eq_true_eq] at h
  obtain ⟨⟨h1, h2⟩, h3⟩ := h
  have hil : i < sl.length := (List.getElem?_eq_some_iff.1 h1).1
  refine ⟨H.hd, ?_, by rw [List.length_set]; exact H.lb, by rw [List.length_set]; exact H.lx, fun j e hj hb => ?_⟩
  · show (a.tmps.setIfInBounds d v).size = n
    rw [Array.size_setIfInBounds]; exact H.hs
  · show (a.tmps.setIfInBounds d v)[e]? = _
    by_cases hji : j = i
    · subst hji
      rw [h1] at hj
      cases hj
      rw [Array.getElem?_setIfInBounds_self, if_pos (by rw [H.hs]; exact h2), List.getElem?_set_self (by rw [H.lx]; exact hil)]
    · have hjl : j < sl.length := (List.getElem?_eq_some_iff.1 hj).1
      have h4 := List.all_eq_true.1 h3 j (List.mem_range.2 hjl)
      have h5 : sl[j]? ≠ some (some d) := by simpa [hji] using h4
      have hde : d ≠ e := fun e0 => h5 (by rw [hj, e0])
      rw [Array.getElem?_setIfInBounds_ne hde, List.getElem?_set_ne (Ne.symm hji)]
      rw [List.getElem?_set_ne (Ne.symm hji)] at hb
      exact H.get j e hj hb
theorem Fr.skip {n : Nat} {sl : List (Option Nat)} {bs : List Bool} {xs : List Value} {a : Act} (H : Fr n sl bs xs a) (i : Nat) (h : sl[i]? = some none) : Fr n sl (bs.set i true) xs a := by
  refine ⟨H.hd, H.hs, by rw [List.length_set]; exact H.lb, H.lx, fun j e hj hb => ?_⟩
  by_cases hji : j = i
  · subst hji; rw [h] at hj; cases hj
  · rw [List.getElem?_set_ne (Ne.symm hji)] at hb
    exact H.get j e hj hb

/-- An array of so many is written out. -/
theorem arr_of {A : Array Value} {n : Nat} (h : A.size = n) : ∃ f : Nat → Value, A = ((List.range n).map f).toArray := by
  refine ⟨fun i => A.getD i undef, ?_⟩
  apply Array.ext
  · simp [h]
  · intro i h1 h2
    simp [Array.getD, h1]
theorem eval_tmp {a : Act} {d : Nat} {v : Value} (h : a.tmps[d]? = some v) : a.eval (.tmp d) = v := by
  show a.tmps.getD d undef = v
  rw [Array.getD_eq_getD_getElem?, h]; rfl

end Go.Proofs.YtagokfoimokniaaGreatDoor

namespace Go.Proofs.YtagokfoimokniaaGreatDoor
open Go.RowKit Go.Shelf Go.Maps Go.WideMaps

theorem Dk.took {w v V : World} {SB : Nat} {ca : Option Addr} {cn cc t : Nat} {va : Option Addr} {vc : Nat} {l : List Int} {x y : Int} (hr : V.ownsRow (v.alloc (.cells #[.slice none 0 0, .int .i64 0, .int .i64 0] 50)).heap.size 2 1 (.slice va l.length vc) l.length (ints l)) (hS : Src w V SB ca cn cc t) (hc : Chg (v.alloc (.cells #[.slice none 0 0, .int .i64 0, .int .i64 0] 50)) V SB (SB + 1)) (hl : SB < v.heap.size) :
    Dk w v (V.alloc (.cells #[.slice va l.length vc, .int .i64 x, .int .i64 y] 50)) SB ca cn cc t V.heap.size va vc l x y := by
  have hz : (v.alloc (.cells #[.slice none 0 0, .int .i64 0, .int .i64 0] 50)).heap.size = v.heap.size + 1 := by simp
  rw [hz] at hr
  have h1 : V.heap[v.heap.size]? = some (.cells #[.slice none 0 0, .int .i64 0, .int .i64 0] 50 (0, 0)) := hc.keep1 (heap_alloc_new _ _) (by omega)
  exact ⟨heap_alloc_new _ _, (keepb h1 (below_box _)).out, hS.step (below_box _), ((Chg.of_below (below_box _) _ _).trans hc).trans (Chg.of_below (below_box _) _ _), hr.alloc _, hl, lt_of_block h1⟩

set_option maxRecDepth 20000 in
set_option maxHeartbeats 8000000 in
theorem l2Bent_any (SB cn cc t : Nat) (ca : Option Addr) (l0 : List Int) (w v : World) (ht : t ≤ 800) (hcn : cn ≤ 1048577) (hB : BAt w ca cn l0) (h : Src w v SB ca cn cc t) :
    Calls Tryz.prog 53 #[.pointer (some ⟨SB, 0, none⟩)] v fun e v' => OutDk w v SB ca cn cc (t + 9) e v' KRB := by
  have HBA : Hid (BAt w ca cn l0) := hB
  have hlt := h.lt
  have h1 := l2Draw_any SB cn cc t ca l0 w (v.alloc (.cells #[.slice none 0 0, .int .i64 0, .int .i64 0] 50)) (by omega) hcn hB (h.step (below_box _))
  clear hB h
  go_enter Tryz.func53, Tryz.ntmps53
  go_wp2_with (first
    | (go_at_call 103; (with_reducible refine h1.mono ?_); clear h1; rintro e v7 ⟨l, x, y, va, vc, t7, rfl, HO7, HK7, ht7, HS7, HC7⟩; have HD7 : Hid (Dk w v (v7.alloc (.cells #[.slice va l.length vc, .int .i64 x, .int .i64 y] 50)) SB ca cn cc t7 v7.heap.size va vc l x y) := Dk.took HO7.out HS7.out HC7.out hlt; have hl3 : l.length ≤ 3 := HK7.out.1.2; have hx3 := HK7.out.2.2.1; have hy9 := HK7.out.2.2.2; have HKL : Hid (∀ q ∈ l, 1 ≤ q ∧ q ≤ 40) := HK7.out.2.1; clear HK7; have h2 := l1Next_any SB cn cc t7 ca l0 10 w (v7.alloc (.cells #[.slice va l.length vc, .int .i64 x, .int .i64 y] 50)) (by omega) (by omega) hcn HBA.out HD7.out.src)
    | (go_at_call 18; (with_reducible refine h2.mono ?_); clear h2; rintro e v8 ⟨r, rfl, ⟨a8, b8⟩, hS8, hc8⟩; have HD8 : Hid (Dk w v v8 SB ca cn cc (t7 + 1) v7.heap.size va vc l x y) := HD7.out.draw hS8 hc8; clear hS8 hc8 b8; have hs8 := HD8.out.src.lt; obtain ⟨c0, c1, c2⟩ := HD8.out.cells; have f0 := HD8.out.fz 0; have f1 := HD8.out.fz 1; have f2 := HD8.out.fz 2; obtain ⟨d0, d1, d2⟩ := cells3 HD8.out.res; have q0 := Joins.unfrozen_of_block HD8.out.res 0; have q1 := Joins.unfrozen_of_block HD8.out.res 1; have q2 := Joins.unfrozen_of_block HD8.out.res 2; have HN : Hid (Dk w v (v8.setCell ⟨v7.heap.size, 0, none⟩ (.slice none 0 0)) SB ca cn cc (t7 + 1) v7.heap.size none 0 [] x y) := HD8.out.other (l' := []) (a' := none) (c' := 0) (World.ownsRow_nil _ _ _ _); obtain ⟨n0, n1, n2⟩ := HN.out.cells; obtain ⟨m0, m1, m2⟩ := cells3 HN.out.res; have m3 := Joins.unfrozen_of_block HN.out.res 0; have m4 := Joins.unfrozen_of_block HN.out.res 1; have m5 := Joins.unfrozen_of_block HN.out.res 2)
    | (go_at_call 22; first
      | (have hD9 := HD8.out.step (below_box (.cells #[.int .i64 0, .int .i64 4, .int .i64 2] 2)); (with_reducible refine (l1Pick_any SB cn cc (t7 + 1) 3 3 ca (some ⟨v8.heap.size, 0, none⟩) l0 [0, 4, 2] w (v8.alloc (.cells #[.int .i64 0, .int .i64 4, .int .i64 2] 2)) (by omega) (by omega) (by omega) hcn HBA.out hD9.src (iatK3 v8 (0) (4) (2)) (fun b off e => (by cases e; omega))).mono ?_); rintro e v9 ⟨z, rfl, hz, hS9, hc9⟩; have HZ1 : Hid (0 ≤ z ∧ z ≤ 4) := (by show _ ≤ z ∧ z ≤ _; simp only [List.mem_cons, List.not_mem_nil, or_false] at hz; omega); have HD9 : Hid (Dk w v v9 SB ca cn cc (t7 + 1 + 1) v7.heap.size va vc l x y) := hD9.draw hS9 hc9; clear hS9 hc9 hD9 hz c0 c1 c2 f0 f1 f2 d0 d1 d2 q0 q1 q2 n0 n1 n2 m0 m1 m2 m3 m4 m5; obtain ⟨c0, c1, c2⟩ := HD9.out.cells; have f1 := HD9.out.fz 1; have HP1 : Hid (Dk w v (v9.setCell ⟨v7.heap.size, 1, none⟩ (.int .i64 z)) SB ca cn cc (t7 + 1 + 1) v7.heap.size va vc l z y) := HD9.out.setk (i := 1) rfl; obtain ⟨x0, x1, x2⟩ := HP1.out.cells; obtain ⟨d0, d1, d2⟩ := cells3 HP1.out.res; have q0 := Joins.unfrozen_of_block HP1.out.res 0; have q1 := Joins.unfrozen_of_block HP1.out.res 1; have q2 := Joins.unfrozen_of_block HP1.out.res 2)
      | (have hD9 := HD8.out.step (below_box (.cells #[.int .i64 (-1), .int .i64 999, .int .i64 1000] 2)); (with_reducible refine (l1Pick_any SB cn cc (t7 + 1) 3 3 ca (some ⟨v8.heap.size, 0, none⟩) l0 [(-1), 999, 1000] w (v8.alloc (.cells #[.int .i64 (-1), .int .i64 999, .int .i64 1000] 2)) (by omega) (by omega) (by omega) hcn HBA.out hD9.src (iatK3 v8 ((-1)) (999) (1000)) (fun b off e => (by cases e; omega))).mono ?_); rintro e v9 ⟨z, rfl, hz, hS9, hc9⟩; have HZ2 : Hid (-1 ≤ z ∧ z ≤ 1000) := (by show _ ≤ z ∧ z ≤ _; simp only [List.mem_cons, List.not_mem_nil, or_false] at hz; omega); have HD9 : Hid (Dk w v v9 SB ca cn cc (t7 + 1 + 1) v7.heap.size va vc l x y) := hD9.draw hS9 hc9; clear hS9 hc9 hD9 hz c0 c1 c2 f0 f1 f2 d0 d1 d2 q0 q1 q2 n0 n1 n2 m0 m1 m2 m3 m4 m5; obtain ⟨c0, c1, c2⟩ := HD9.out.cells; have f2 := HD9.out.fz 2; have HP2 : Hid (Dk w v (v9.setCell ⟨v7.heap.size, 2, none⟩ (.int .i64 z)) SB ca cn cc (t7 + 1 + 1) v7.heap.size va vc l x z) := HD9.out.setk (i := 2) rfl; obtain ⟨x0, x1, x2⟩ := HP2.out.cells; obtain ⟨d0, d1, d2⟩ := cells3 HP2.out.res; have q0 := Joins.unfrozen_of_block HP2.out.res 0; have q1 := Joins.unfrozen_of_block HP2.out.res 1; have q2 := Joins.unfrozen_of_block HP2.out.res 2)))
  all_goals first
    | (obtain ⟨j0, j1, j2⟩ := three_set HP1.out.res (.slice va l.length vc) (.int .i64 z) (.int .i64 y); exact bodyPost_ret (v := .agg #[.slice va l.length vc, .int .i64 z, .int .i64 y]) (by simp [results, Tryz.results53, go_sem, j0, j1, j2]) rfl (HP1.out.ret (by omega) ⟨by omega, fun q hq => (by have := HKL.out q hq; omega), (by have := HZ1.out; omega), by omega⟩ rfl _ _ _))
    | (obtain ⟨j0, j1, j2⟩ := three_set HP2.out.res (.slice va l.length vc) (.int .i64 x) (.int .i64 z); exact bodyPost_ret (v := .agg #[.slice va l.length vc, .int .i64 x, .int .i64 z]) (by simp [results, Tryz.results53, go_sem, j0, j1, j2]) rfl (HP2.out.ret (by omega) ⟨by omega, fun q hq => (by have := HKL.out q hq; omega), by omega, (by have := HZ2.out; omega)⟩ rfl _ _ _))
    | (have _hh := ‹(r == 3) = true›; obtain ⟨j0, j1, j2⟩ := three_set HN.out.res (.slice none 0 0) (.int .i64 x) (.int .i64 y); exact bodyPost_ret (v := .agg #[.slice none 0 0, .int .i64 x, .int .i64 y]) (by simp [results, Tryz.results53, go_sem, j0, j1, j2]) rfl (HN.out.ret (by omega) ⟨by simp, fun q hq => (by cases hq), by omega, by omega⟩ rfl _ _ _))
    | (have _hh := ‹(r == 3) = false›; obtain ⟨j0, j1, j2⟩ := three_set HD8.out.res (.slice va l.length vc) (.int .i64 x) (.int .i64 y); exact bodyPost_ret (v := .agg #[.slice va l.length vc, .int .i64 x, .int .i64 y]) (by simp [results, Tryz.results53, go_sem, j0, j1, j2]) rfl (HD8.out.ret (by omega) ⟨by omega, fun q hq => (by have := HKL.out q hq; omega), by omega, by omega⟩ rfl _ _ _))
    | skip
  all_goals
    have hcall := l1Pick_any SB cn cc (t7 + 1) 3 3 ca (some ⟨v8.heap.size, 0, none⟩) l0 [0, 1, 1000] w (v8.alloc (.cells #[.int .i64 0, .int .i64 1, .int .i64 1000] 2)).drew (by omega) (by omega) (by omega) hcn HBA.out ((HD8.out.src.step (below_box _)).step (Below.refl _ _).drew) ((iatK3 v8 0 1 1000).below (Below.refl _ _).drew (Nat.le_refl _)) (fun b off e => by cases e; omega)
    have HD8d : Hid (Dk w v (v8.alloc (.cells #[.int .i64 0, .int .i64 1, .int .i64 1000] 2)).drew SB ca cn cc (t7 + 1) v7.heap.size va vc l x y) := (HD8.out.step (below_box _)).step (Below.refl _ _).drew
    have q3 := (HD8.out.step (below_box (.cells #[.int .i64 0, .int .i64 1, .int .i64 1000] 2))).cells.1
    have q4 := HD8d.out.cells.1
    have q5 := (HD8.out.step (Below.refl _ _).drew).cells.1
    go_region_law (first
      | (refine step_append_run (by rfl) _ _ _ (by rfl) (by rfl) (by rfl) hrun ?_)
      | (rw [if_pos (by rfl)]; go_simp; go_at_call 22; (with_reducible refine hcall.mono ?_); clear hcall; rintro e v9 ⟨z, rfl, hz, hS9, hc9⟩; have HZ : Hid (0 ≤ z ∧ z ≤ 1000) := (by show 0 ≤ z ∧ z ≤ 1000; simp only [List.mem_cons, List.not_mem_nil, or_false] at hz; omega); have HD9 : Hid (Dk w v v9 SB ca cn cc (t7 + 1 + 1) v7.heap.size va vc l x y) := HD8d.out.draw hS9 hc9; have k3 := HD9.out.cells.1; have k4 := (HD9.out.step (below_box (.cells #[.int .i64 z] 2))).cells.1; obtain ⟨g, cap, w5, hrun, ⟨c3', f3'⟩, HD10⟩ := HD9.out.more (k := z) (by omega); obtain ⟨x0, x1, x2⟩ := HD10.out.cells; obtain ⟨y0, y1, y2⟩ := cells3 HD10.out.res; have y3 := Joins.unfrozen_of_block HD10.out.res 0; have y4 := Joins.unfrozen_of_block HD10.out.res 1; have y5 := Joins.unfrozen_of_block HD10.out.res 2; clear hS9 hc9 hz))
    all_goals
      go_wp2
      (obtain ⟨j0, j1, j2⟩ := three_set HD10.out.res (.slice (some ⟨g, 0, none⟩) (l.length + 1) cap) (.int .i64 x) (.int .i64 y); exact bodyPost_ret (v := .agg #[.slice (some ⟨g, 0, none⟩) (l.length + 1) cap, .int .i64 x, .int .i64 y]) (by simp [results, Tryz.results53, go_sem, j0, j1, j2]) rfl (HD10.out.ret (by omega) ⟨by simp; omega, fun q hq => (by rw [List.mem_append] at hq; rcases hq with hq | hq; (have := HKL.out q hq; omega); (have := HZ.out; simp at hq; omega)), by omega, by omega⟩ (by simp) _ _ _))

end Go.Proofs.YtagokfoimokniaaGreatDoor

namespace Go.Proofs.YtagokfoimokniaaGreatDoor
open Go.RowKit Go.Shelf Go.Maps Go.WideMaps
theorem iatF3 {V:World} {A:Nat} {x y z:Int} (h:V.heap[A]? =some (.cells #[.int .i64 x,.int .i64 y,.int .i64 z] 2 (0,0))):IAt V (some ⟨A,0,none⟩) 3 [x,y,z]:=by
 refine ⟨rfl,.inr ⟨A,0,rfl,lt_of_block h,fun j hj=> ?_⟩⟩
 rw[Nat.zero_add]
 unfold World.cell?
 rw[h]
 match j,hj with
 |0,_=>rfl
 |1,_=>rfl
 |2,_=>rfl
theorem iatF2 {V:World} {A:Nat} {x y:Int} (h:V.heap[A]? =some (.cells #[.int .i64 x,.int .i64 y] 2 (0,0))):IAt V (some ⟨A,0,none⟩) 2 [x,y]:=by
 refine ⟨rfl,.inr ⟨A,0,rfl,lt_of_block h,fun j hj=> ?_⟩⟩
 rw[Nat.zero_add]
 unfold World.cell?
 rw[h]
 match j,hj with
 |0,_=>rfl
 |1,_=>rfl
theorem oset_at {os:List Ou} {o:Ou} (hn:0<os.length):(os.set 0 o).getD 0 O0=o:=by simp[List.getD,hn]
theorem oset_ne {os:List Ou} {o:Ou} {j:Nat} (hj:j≠0):(os.set 0 o).getD j O0=os.getD j O0:=by
 simp only[List.getD]
 rw[List.getElem?_set_ne (by omega)]
theorem few_set {os:List Ou} {o:Ou} (h:∀x∈os,x.l.length≤4) (ho:o.l.length≤4):∀x∈os.set 0 o,x.l.length≤4:=fun x hx=>by
 rcases List.mem_or_eq_of_mem_set hx with h1|rfl
 ·exact h x h1
 ·exact ho
theorem TqB.farC {w v V:World} {SB:Nat} {ca:Option Addr} {cn cc t T g i:Nat} {k f:Int} {u2 u3:Value} (H:TqB w v V SB ca cn cc t T k f u2 u3) (hg:v.heap.size<g) (hgT:g≠T) (u:Value):TqB w v (V.setCell ⟨g,i,none⟩ u) SB ca cn cc t T k f u2 u3:=by
 have ho:=H.ord
 have hsb:=H.src.sb
 exact ⟨(Below.heap_setCell _ ⟨g,i,none⟩ _ T (show T≠g from Ne.symm hgT)).trans H.box,(Below.heap_setCell _ ⟨g,i,none⟩ _ v.heap.size (show v.heap.size≠g by omega)).trans H.res,⟨(Below.heap_setCell _ ⟨g,i,none⟩ _ SB (show SB≠g by omega)).trans H.src.box,H.src.bel.setCell (p:=⟨g,i,none⟩) (show w.heap.size≤g by omega) _,hsb⟩,H.chg.setNew (by omega) _,H.ord⟩
section
variable {w v V:World} {SB:Nat} {ca:Option Addr} {cn cc t T g:Nat} {k f:Int} {ia:Option Addr} {ic:Nat} {rs:List (Int×Int)} {oc:Nat} {os:List Ou}
theorem TqD.form {oa:Option Addr} (H:TqD w v V SB ca cn cc t T k f ia ic rs oa oc os) (hn:0<os.length):∃g,oa=some ⟨g,0,none⟩:=by
 obtain ⟨kv,hk⟩:=H.out
 obtain ⟨xs,h1,_⟩:=hk.row
 obtain ⟨b,cap,e⟩:=Joins.ownsRow_form h1 hn
 exact ⟨b,by injection e⟩
theorem TqD.out0 (H:TqD w v V SB ca cn cc t T k f ia ic rs (some ⟨g,0,none⟩) oc os) (hn:0<os.length):(∃u,V.cell? ⟨g,0,none⟩=some (.int .i64 (os.getD 0 O0).v)∧V.cell? ⟨g,1,none⟩=some u∧V.cell? ⟨g,2,none⟩=some (.int .i64 (os.getD 0 O0).x)∧V.cell? ⟨g,3,none⟩=some (.int .i64 (os.getD 0 O0).y))∧(∀i,V.frozen? ⟨g,i,none⟩=false)∧v.heap.size<g∧g≠T:=by
 obtain ⟨kv,hk⟩:=H.out
 obtain ⟨xs,h1,h2⟩:=hk.row
 obtain ⟨a0,a1,a2,a3⟩:=h2 0 hn
 have hx:=h1.1
 simp only[Nat.zero_mul,Nat.zero_add] at a0 a1 a2 a3
 refine ⟨⟨kv 0,?_,?_,?_,?_⟩,fun i=> ?_,(h1.lt g rfl).1,fun e=>row_neT (by decide) h1 H.b.box g rfl e⟩
 ·rw[h1.cellAt 0 (by omega)];exact a0
 ·rw[h1.cellAt 1 (by omega)];exact a1
 ·rw[h1.cellAt 2 (by omega)];exact a2
 ·rw[h1.cellAt 3 (by omega)];exact a3
 ·rcases h1.2 with ⟨e,_⟩|⟨g',c',cur,e,_,hh,_⟩
  ·cases e
  ·cases e;exact Joins.unfrozen_of_block hh i
theorem TqD.setV (H:TqD w v V SB ca cn cc t T k f ia ic rs (some ⟨g,0,none⟩) oc os) (hn:0<os.length) (z:Int):TqD w v (V.setCell ⟨g,0,none⟩ (.int .i64 z)) SB ca cn cc t T k f ia ic rs (some ⟨g,0,none⟩) oc (os.set 0 {os.getD 0 O0 with v:=z}):=by
 obtain ⟨_,_,hgv,hgT⟩:=H.out0 hn
 obtain ⟨kv,hk⟩:=H.out
 obtain ⟨xs,h1,h2⟩:=hk.row
 have hx:=h1.1
 have hlen:(os.set 0 {os.getD 0 O0 with v:=z}).length=os.length:=by simp
 have hll:∀j,j<os.length→((os.set 0 {os.getD 0 O0 with v:=z}).getD j O0).l=(os.getD j O0).l:=fun j hj=>by
  by_cases e:j=0
  ·subst e;rw[oset_at hn]
  ·rw[oset_ne e]
 refine ⟨by rw[hlen];exact H.b.farC hgv hgT _,ownsRow_setCell_other H.ref (a:=⟨g,0,none⟩) (fun e=>rows_apart (by decide) h1 H.ref g rfl e) _,⟨kv,?_⟩⟩
 rw[hlen]
 refine ⟨⟨xs.set 0 (.int .i64 z),(h1.stored 0 _).1,fun j hj=> ?_⟩,fun b hb=>by simpa using hk.top b hb,fun j hj=> ?_,hk.apart⟩
 ·obtain ⟨a0,a1,a2,a3⟩:=h2 j hj
  by_cases e:j=0
  ·subst e
   rw[oset_at hn]
   refine ⟨?_,?_,?_,?_⟩<;>first|(rw[List.getElem?_set_ne (by omega)];assumption)|(rw[List.getElem?_set_self (by omega)])
  ·rw[oset_ne e]
   refine ⟨?_,?_,?_,?_⟩<;>(rw[List.getElem?_set_ne (by omega)];assumption)
 ·rw[hll j hj]
  exact ⟨ownsRow_setCell_other (hk.keys j hj).1 (a:=⟨g,0,none⟩) (fun e=>rows_apart (by decide) h1 (hk.keys j hj).1 g rfl e) _,fun b hb=>by simpa using (hk.keys j hj).2 b hb⟩
theorem TqD.setRl {V0:World} {t0 kc:Nat} {x y:Int} {l:List Int} {ka:Option Addr} {oa:Option Addr} (H0:TqD w v V0 SB ca cn cc t0 T k f ia ic rs oa oc os) (hoa:oa=some ⟨g,0,none⟩) (hn:0<os.length) (hS:Src w V SB ca cn cc t) (hc:Chg V0 V SB (SB+1)) (hr:V.ownsRow V0.heap.size 2 1 (.slice ka l.length kc) l.length (ints l)):
 TqD w v (((V.setCell ⟨g,1,none⟩ (.slice ka l.length kc)).setCell ⟨g,2,none⟩ (.int .i64 x)).setCell ⟨g,3,none⟩ (.int .i64 y)) SB ca cn cc t T k f ia ic rs (some ⟨g,0,none⟩) oc (os.set 0 ⟨(os.getD 0 O0).v,l,x,y⟩):=by
 subst hoa
 have H:=H0.draw hS hc
 obtain ⟨_,_,hgv,hgT⟩:=H.out0 hn
 obtain ⟨kv0,hk0⟩:=H0.out
 have hkk:=hk0.chg hc (.inr (by have:=H0.b.ord;omega))
 obtain ⟨xs,h1,h2⟩:=hkk.row
 have hx:=h1.1
 have hlen:(os.set 0 ⟨(os.getD 0 O0).v,l,x,y⟩).length=os.length:=by simp
 have hV:v.heap.size+1≤V0.heap.size:=by have:=H0.b.ord;have:=H0.lt;omega
 have q:∀{e:TypeId} {b s n:Nat} {u:Value} {zs:List Value},V.ownsRow b e s u n zs→u.ownBlock≠some g→(((V.setCell ⟨g,1,none⟩ (.slice ka l.length kc)).setCell ⟨g,2,none⟩ (.int .i64 x)).setCell ⟨g,3,none⟩ (.int .i64 y)).ownsRow b e s u n zs:=fun h hne=>ownsRow_setCell_other (ownsRow_setCell_other (ownsRow_setCell_other h (a:=⟨g,1,none⟩) hne _) (a:=⟨g,2,none⟩) hne _) (a:=⟨g,3,none⟩) hne _
 refine ⟨by rw[hlen];exact ((H.b.farC hgv hgT _).farC hgv hgT _).farC hgv hgT _,q H.ref (fun e=>rows_apart (by decide) h1 H.ref g rfl e),⟨fun j=>if j=0 then .slice ka l.length kc else kv0 j,?_⟩⟩
 rw[hlen]
 have hgt:=hk0.top g rfl
 refine ⟨⟨((xs.set 1 (.slice ka l.length kc)).set 2 (.int .i64 x)).set 3 (.int .i64 y),(((h1.stored 1 _).1.stored 2 _).1.stored 3 _).1,fun j hj=> ?_⟩,fun b hb=> ?_,fun j hj=> ?_,fun i j hij hj b hb=> ?_⟩
 ·obtain ⟨a0,a1,a2,a3⟩:=h2 j hj
  by_cases e:j=0
  ·subst e
   rw[oset_at hn,if_pos rfl]
   refine ⟨?_,?_,?_,?_⟩
   ·rw[List.getElem?_set_ne (by omega),List.getElem?_set_ne (by omega),List.getElem?_set_ne (by omega)];exact a0
   ·rw[List.getElem?_set_ne (by omega),List.getElem?_set_ne (by omega),List.getElem?_set_self (by omega)]
   ·rw[List.getElem?_set_ne (by omega),List.getElem?_set_self (by simp;omega)]
   ·rw[List.getElem?_set_self (by simp;omega)]
  ·rw[oset_ne e,if_neg e]
   refine ⟨?_,?_,?_,?_⟩<;>(rw[List.getElem?_set_ne (by omega),List.getElem?_set_ne (by omega),List.getElem?_set_ne (by omega)];assumption)
 ·have:=hkk.top b hb
  have:=hc.size
  simp
  omega
 ·show World.ownsRow _ _ _ _ (if j=0 then _ else kv0 j) _ _∧∀b,Value.ownBlock (if j=0 then _ else kv0 j)=some b→_
  by_cases e:j=0
  ·subst e
   rw[oset_at hn,if_pos rfl]
   exact ⟨q (Joins.ownsRow_le hr hV) (fun e=>by have:=(hr.lt g e).1;omega),fun b hb=>by have:=(hr.lt b hb).2;simpa using this⟩
  ·rw[oset_ne e,if_neg e]
   exact ⟨q (hkk.keys j hj).1 (fun e=>rows_apart (by decide) h1 (hkk.keys j hj).1 g rfl e),fun b hb=>by have:=(hkk.keys j hj).2 b hb;have:=hc.size;simp;omega⟩
 ·have hj0:j≠0:=by omega
  show Value.ownBlock (if j=0 then _ else kv0 j)≠_
  rw[if_neg hj0]
  by_cases e:i=0
  ·subst e
   rw[if_pos rfl] at hb
   intro e2
   have:=(hr.lt b hb).1
   have:=(hk0.keys j hj).2 b e2
   omega
  ·rw[if_neg e] at hb
   exact hkk.apart i j hij hj b hb
theorem TqD.noR {oa:Option Addr} (H:TqD w v V SB ca cn cc t T k f ia ic rs oa oc os):TqD w v (V.setCell ⟨T,2,none⟩ (.slice none 0 0)) SB ca cn cc t T k f none 0 [] oa oc os:=H.setR (rs':=[]) (World.ownsRow_nil _ _ _ _)
theorem repO5 {n j:Nat} (h:j<n):(List.replicate n O0).getD j O0=O0:=by
 rw[List.getD_eq_getElem?_getD,List.getElem?_replicate,if_pos h];rfl
theorem TqD.make5 {V':World} {oa:Option Addr} (H:TqD w v V SB ca cn cc t T k f ia ic rs oa oc os) (hrow:V'.ownsRow V.heap.size 52 4 (.slice (some ⟨g,0,none⟩) 5 5) 5 (madeCells (Value.agg #[.int .i64 0,.slice none 0 0,.int .i64 0,.int .i64 0]).cells (5*4)).toList) (hb:Below V.heap.size V V'):TqD w v (V'.setCell ⟨T,3,none⟩ (.slice (some ⟨g,0,none⟩) 5 5)) SB ca cn cc t T k f ia ic rs (some ⟨g,0,none⟩) 5 (List.replicate 5 O0):=by
 have H1:=H.step hb
 have hV:v.heap.size+1≤V.heap.size:=by have:=H.b.ord;have:=H.lt;omega
 refine H1.setO (os':=List.replicate 5 O0) ⟨fun _=> .slice none 0 0,⟨⟨_,Joins.ownsRow_le hrow hV,fun j hj=> ?_⟩,fun b hb=>(hrow.lt b hb).2,fun j hj=>⟨?_,fun b hb=>by cases hb⟩,fun i j _ _ b hb=>by cases hb⟩⟩
 ·rw[List.length_replicate] at hj
  rw[repO5 hj]
  have hm:∀i,i<4→(madeCells (Value.agg #[.int .i64 0,.slice none 0 0,.int .i64 0,.int .i64 0]).cells (5*4)).toList[j*4+i]? =some (#[Value.int .i64 0,.slice none 0 0,.int .i64 0,.int .i64 0][i]!):=fun i hi=>by
   have e1:(Value.agg #[.int .i64 0,.slice none 0 0,.int .i64 0,.int .i64 0]).cells=#[Value.int .i64 0,.slice none 0 0,.int .i64 0,.int .i64 0]:=rfl
   rw[e1]
   have e2:(j*4+i)%4=i:=by omega
   have e3:j*4+i<20:=by omega
   simp[madeCells,e2,e3]
  exact ⟨hm 0 (by omega),hm 1 (by omega),hm 2 (by omega),hm 3 (by omega)⟩
 ·rw[List.length_replicate] at hj
  rw[repO5 hj]
  exact World.ownsRow_nil _ _ _ _
end
def KTB (_ _:Int) (rs:List (Int×Int)) (os:List Ou):Prop:=rs.length≤3∧os.length≤5∧∀o∈os,o.l.length≤4
structure R13 (w v:World) (SB:Nat) (ca:Option Addr) (cn cc t0 T:Nat) (k f:Int) (ia:Option Addr) (ic:Nat) (rs:List (Int×Int)) (oa:Option Addr) (oc:Nat) (os:List Ou) (V:World) (b0 b1 b2 b3 b4 b5 b6 b7 b8 b9 b10 b11 b12:Bool) (x0 x1 x2 x3 x4 x5 x6 x7 x8 x9 x10 x11 x12:Value):Prop where
 g0:b0=true→x0= .pointer (some ⟨T,2,none⟩)
 g1:b1=true→x1= .slice ia rs.length ic
 g2:b2=true→x2= .pointer (some ⟨SB,0,none⟩)
 g5:b5=true→x5= .pointer (some ⟨SB,0,none⟩)
 g11:b11=true→x11= .pointer (some ⟨T,2,none⟩)
 o1_0:b1=true→b0=true
 o4_2:b4=true→b2=true
 o4_3:b4=true→b3=true
 o7_5:b7=true→b5=true
 o7_6:b7=true→b6=true
 o7_4:b7=true→b4=true
 o8_4:b8=true→b4=true
 o8_7:b8=true→b7=true
 o9_8:b9=true→b8=true
 o10_1:b10=true→b1=true
 o10_9:b10=true→b9=true
 o12_10:b12=true→b10=true
 o12_11:b12=true→b11=true
 m0:b9=false→∃t1,t1≤t0+b4.toNat+b7.toNat∧TqD w v V SB ca cn cc t1 T k f ia ic rs oa oc os
 m1:b9=true→b10=false→∃(U:World) (p q:Int),V=U.alloc (.cells #[.int .i64 p,.int .i64 q] 47)∧(∃t1,t1≤t0+2∧TqD w v U SB ca cn cc t1 T k f ia ic rs oa oc os)∧x9= .slice (some ⟨U.heap.size,0,none⟩) 1 1
 m2:b10=true→b12=false→∃(gg cap:Nat) (p q:Int),x10= .slice (some ⟨gg,0,none⟩) (rs.length+1) cap∧V.cell? ⟨T,2,none⟩=some (.slice ia rs.length ic)∧V.frozen? ⟨T,2,none⟩=false∧∃t1,t1≤t0+2∧TqD w v (V.setCell ⟨T,2,none⟩ (.slice (some ⟨gg,0,none⟩) (rs.length+1) cap)) SB ca cn cc t1 T k f (some ⟨gg,0,none⟩) cap (rs++[(p,q)]) oa oc os
 m3:b12=true→∃(gg cap:Nat) (p q:Int) (t1:Nat),t1≤t0+2∧TqD w v V SB ca cn cc t1 T k f (some ⟨gg,0,none⟩) cap (rs++[(p,q)]) oa oc os
 e3:b3=true→b4=false→∃A,x3= .slice (some ⟨A,0,none⟩) 3 3∧SB<A∧V.heap[A]? =some (.cells #[.int .i64 0,.int .i64 61,.int .i64 1] 2 (0,0))
 e6:b6=true→b7=false→∃A,x6= .slice (some ⟨A,0,none⟩) 2 2∧SB<A∧V.heap[A]? =some (.cells #[.int .i64 0,.int .i64 4] 2 (0,0))
 e4:b4=true→∃z,x4= .int .i64 z
 e7:b7=true→∃z,x7= .int .i64 z
 e8:b8=true→∃p q,x8= .agg #[.int .i64 p,.int .i64 q]
set_option maxRecDepth 20000 in
set_option maxHeartbeats 8000000 in
theorem l3Bent_any (SB cn cc t:Nat) (ca:Option Addr) (l0:List Int) (w v:World) (ht:t≤700) (hcn:cn≤1048577) (hB:BAt w ca cn l0) (h:Src w v SB ca cn cc t):
 Calls Tryz.prog 21 #[.pointer (some ⟨SB,0,none⟩)] v fun e v'=>OutT w v SB ca cn cc (t+50) e v' KTB:=by
 have HBA:Hid (BAt w ca cn l0):=hB
 have hlt:=h.lt
 have h1:=l3Draw_any SB cn cc t ca l0 w (v.alloc (.cells #[.int .i64 0,.int .i64 0,.slice none 0 0,.slice none 0 0] 32)) (by omega) hcn hB (h.step (below_box _))
 obtain ⟨i0,hi,hz0,hz1,hz2⟩:=info_parts Tryz.infoOut
 clear hB h
 go_enter Tryz.func21,Tryz.ntmps21
 go_upto_if 8 with (first
  |(go_at_call 52;(with_reducible refine h1.mono ?_);clear h1;rintro e v3 ⟨k,f,ia,ic,rs,oa,oc,os,t3,rfl,ht3,HK3,HO3⟩;have HD3:Hid (TqD w v (v3.alloc (.cells #[.int .i64 k,.int .i64 f,.slice ia rs.length ic,.slice oa os.length oc] 32)) SB ca cn cc t3 v3.heap.size k f ia ic rs oa oc os):=TqD.first HO3.out hlt;have h2:=l1Next_any SB cn cc t3 ca l0 14 w (v3.alloc (.cells #[.int .i64 k,.int .i64 f,.slice ia rs.length ic,.slice oa os.length oc] 32)) (by omega) (by omega) hcn HBA.out HD3.out.b.src)
  |(go_at_call 18;(with_reducible refine h2.mono ?_);clear h2;rintro e v8 ⟨r,rfl,_,hS8,hc8⟩;have HD8':=HD3.out.draw hS8 hc8;clear hS8 hc8))
 obtain ⟨T,hT⟩:∃x,x=v3.heap.size:=⟨_,rfl⟩
 rw[←hT] at HD8' ⊢
 obtain ⟨t0,ht0⟩:∃x,x=t3+1:=⟨_,rfl⟩
 rw[←ht0] at HD8'
 have HD8:Hid (TqD w v v8 SB ca cn cc t0 T k f ia ic rs oa oc os):=HD8'
 have hsb8:=HD8.out.b.src.lt
 have HFEW:Hid (KTB k f rs os):=⟨by have:=HK3.out.2.1.1;omega,by have:=HK3.out.2.2.1;omega,fun o ho=>by have:=(HK3.out.2.2.2 o ho).2.1;omega⟩
 have HR2:Hid (rs.length≤2):=HK3.out.2.1.1.2
 have HOP:Hid (0<os.length):=by have:=HK3.out.2.2.1;show 0<os.length;omega
 have htt:t0≤t+31:=by omega
 clear hT ht0 HD3 HO3 HD8' ht3 HK3
 obtain ⟨g,hg⟩:=HD8.out.form HOP.out
 subst hg
 have hrl:=HR2.out
 obtain ⟨c0,c1,c2,c3⟩:=HD8.out.cells
 obtain ⟨r0,r1,r2,r3,r4,r5,r6,r7⟩:=cells4 HD8.out.b.res
 by_cases e0:r=0
 ·subst e0
  have hp:=l1Pick_any SB cn cc t0 4 4 ca (some ⟨v8.heap.size,0,none⟩) l0 [-1,3,0,1] w (v8.alloc (.cells #[.int .i64 (-1),.int .i64 3,.int .i64 0,.int .i64 1] 2)) (by omega) (by omega) (by omega) hcn HBA.out (HD8.out.step (below_box _)).b.src (iatK4 v8 (-1) 3 0 1) (fun b off e=>(by cases e;omega))
  go_wp2_with (first
   |(go_at_call 22;(with_reducible refine hp.mono ?_);clear hp;rintro e v9 ⟨z,rfl,_,hS9,hc9⟩;clear c0 c1 c2 c3;have HD9:Hid (TqD w v v9 SB ca cn cc (t0+1) T k f ia ic rs (some ⟨g,0,none⟩) oc os):=(HD8.out.step (below_box (.cells #[.int .i64 (-1),.int .i64 3,.int .i64 0,.int .i64 1] 2))).draw hS9 hc9;clear hS9 hc9;obtain ⟨c0,c1,c2,c3⟩:=HD9.out.cells;have f0:=HD9.out.fz 0;have HP:Hid (TqD w v (v9.setCell ⟨T,0,none⟩ (.int .i64 z)) SB ca cn cc (t0+1) T z f ia ic rs (some ⟨g,0,none⟩) oc os):=HD9.out.setk z;clear r0 r1 r2 r3 r4 r5 r6 r7;obtain ⟨x0,x1,x2,x3⟩:=HP.out.cells;obtain ⟨s0,s1,s2,s3,s4,s5,s6,s7⟩:=cells4 HP.out.b.res))
  obtain ⟨j0,j1,j2,j3⟩:=four_set HP.out.b.res (.int .i64 z) (.int .i64 f) (.slice ia rs.length ic) (.slice (some ⟨g,0,none⟩) os.length oc)
  refine bodyPost_ret (v:= .agg #[.int .i64 z,.int .i64 f,.slice ia rs.length ic,.slice (some ⟨g,0,none⟩) os.length oc]) (by simp[results,Tryz.results21,go_sem,j0,j1,j2,j3]) rfl ?_
  exact HP.out.ret (by omega) HFEW.out rfl _ _ _ _
 have e0b:(r==0)=false:=by simpa using e0
 by_cases e1:r=1
 ·subst e1
  have hp:=l1Pick_any SB cn cc t0 3 3 ca (some ⟨v8.heap.size,0,none⟩) l0 [0,1000,5] w (v8.alloc (.cells #[.int .i64 0,.int .i64 1000,.int .i64 5] 2)) (by omega) (by omega) (by omega) hcn HBA.out (HD8.out.step (below_box _)).b.src (iatK3 v8 0 1000 5) (fun b off e=>(by cases e;omega))
  go_wp2_with (first
   |(go_at_call 22;(with_reducible refine hp.mono ?_);clear hp;rintro e v9 ⟨z,rfl,_,hS9,hc9⟩;clear c0 c1 c2 c3;have HD9:Hid (TqD w v v9 SB ca cn cc (t0+1) T k f ia ic rs (some ⟨g,0,none⟩) oc os):=(HD8.out.step (below_box (.cells #[.int .i64 0,.int .i64 1000,.int .i64 5] 2))).draw hS9 hc9;clear hS9 hc9;obtain ⟨c0,c1,c2,c3⟩:=HD9.out.cells;have f0:=HD9.out.fz 1;have HP:Hid (TqD w v (v9.setCell ⟨T,1,none⟩ (.int .i64 z)) SB ca cn cc (t0+1) T k z ia ic rs (some ⟨g,0,none⟩) oc os):=HD9.out.setf z;clear r0 r1 r2 r3 r4 r5 r6 r7;obtain ⟨x0,x1,x2,x3⟩:=HP.out.cells;obtain ⟨s0,s1,s2,s3,s4,s5,s6,s7⟩:=cells4 HP.out.b.res))
  obtain ⟨j0,j1,j2,j3⟩:=four_set HP.out.b.res (.int .i64 k) (.int .i64 z) (.slice ia rs.length ic) (.slice (some ⟨g,0,none⟩) os.length oc)
  refine bodyPost_ret (v:= .agg #[.int .i64 k,.int .i64 z,.slice ia rs.length ic,.slice (some ⟨g,0,none⟩) os.length oc]) (by simp[results,Tryz.results21,go_sem,j0,j1,j2,j3]) rfl ?_
  exact HP.out.ret (by omega) HFEW.out rfl _ _ _ _
 have e1b:(r==1)=false:=by simpa using e1
 by_cases e2:r=2
 ·subst e2
  clear c0 c1 c2 c3 r0 r1 r2 r3 r4 r5 r6 r7
  go_wp2
  refine wp_region_any (by kernel_rfl) ?_
  change wpAny _ _ _ _ _ _ _ (World.drew _)
  refine wpAny_inv (fun L a V=>∃(b0 b1 b2 b3 b4 b5 b6 b7 b8 b9 b10 b11 b12:Bool) (x0 x1 x2 x3 x4 x5 x6 x7 x8 x9 x10 x11 x12:Value),L=#[b0,b1,b2,b3,b4,b5,b6,b7,b8,b9,b10,b11,b12]∧Fr 59 [some 22,some 23,some 24,some 25,some 26,some 27,some 28,some 29,some 30,some 31,some 32,some 33,none,some 0,some 2,some 3] [b0,b1,b2,b3,b4,b5,b6,b7,b8,b9,b10,b11,b12,true,true,true] [x0,x1,x2,x3,x4,x5,x6,x7,x8,x9,x10,x11,x12,.pointer (some ⟨SB,0,none⟩),.pointer (some ⟨v.heap.size,0,none⟩),.pointer (some ⟨T,0,none⟩)] a∧R13 w v SB ca cn cc t0 T k f ia ic rs (some ⟨g,0,none⟩) oc os V b0 b1 b2 b3 b4 b5 b6 b7 b8 b9 b10 b11 b12 x0 x1 x2 x3 x4 x5 x6 x7 x8 x9 x10 x11 x12) ?step ?done _ _ _ _ (by simp) ?start
  case start=>
   refine ⟨false,false,false,false,false,false,false,false,false,false,false,false,false,undef,undef,undef,undef,undef,undef,undef,undef,undef,undef,undef,undef,undef,rfl,⟨rfl,rfl,rfl,rfl,fun i d h1 h2=> ?_⟩,?_⟩
   ·have hlt:i<16:=(List.getElem?_eq_some_iff.1 h1).1
    obtain rfl|rfl|rfl|rfl|rfl|rfl|rfl|rfl|rfl|rfl|rfl|rfl|rfl|rfl|rfl|rfl:i=0∨i=1∨i=2∨i=3∨i=4∨i=5∨i=6∨i=7∨i=8∨i=9∨i=10∨i=11∨i=12∨i=13∨i=14∨i=15:=by omega
    all_goals first|exact absurd h2 (by decide)|(have:=Option.some.inj (Option.some.inj h1);subst this;rfl)
   ·exact {m0:=fun _=>⟨t0,Nat.le_refl _,HD8.out.step (Below.refl _ _).drew⟩,m1:=nofun,m2:=nofun,m3:=nofun,e3:=nofun,e6:=nofun,e4:=nofun,e7:=nofun,e8:=nofun,g0:=nofun,g1:=nofun,g2:=nofun,g5:=nofun,g11:=nofun,o1_0:=nofun,o4_2:=nofun,o4_3:=nofun,o7_5:=nofun,o7_6:=nofun,o7_4:=nofun,o8_4:=nofun,o8_7:=nofun,o9_8:=nofun,o10_1:=nofun,o10_9:=nofun,o12_10:=nofun,o12_11:=nofun}
  case done=>
   rintro L a V ⟨b0,b1,b2,b3,b4,b5,b6,b7,b8,b9,b10,b11,b12,x0,x1,x2,x3,x4,x5,x6,x7,x8,x9,x10,x11,x12,rfl,FR,H⟩ hr
   have hall:=ready_all (by kernel_rfl) hr
   obtain ⟨tm,df⟩:=a
   obtain rfl:df=[]:=FR.hd
   obtain ⟨F,hF⟩:=arr_of FR.hs
   have hF2:tm=#[F 0,F 1,F 2,F 3,F 4,F 5,F 6,F 7,F 8,F 9,F 10,F 11,F 12,F 13,F 14,F 15,F 16,F 17,F 18,F 19,F 20,F 21,F 22,F 23,F 24,F 25,F 26,F 27,F 28,F 29,F 30,F 31,F 32,F 33,F 34,F 35,F 36,F 37,F 38,F 39,F 40,F 41,F 42,F 43,F 44,F 45,F 46,F 47,F 48,F 49,F 50,F 51,F 52,F 53,F 54,F 55,F 56,F 57,F 58]:=hF
   subst hF2
   have kk0:F 0= .pointer (some ⟨SB,0,none⟩):=Option.some.inj (FR.get 13 0 rfl rfl)
   have kk2:F 2= .pointer (some ⟨v.heap.size,0,none⟩):=Option.some.inj (FR.get 14 2 rfl rfl)
   have kk3:F 3= .pointer (some ⟨T,0,none⟩):=Option.some.inj (FR.get 15 3 rfl rfl)
   rw[kk0,kk2,kk3]
   obtain rfl:b12=true:=hall 12 (by decide)
   obtain ⟨gg,cap,p,q,t1,ht1,hD⟩:=H.m3 rfl
   have HD9:Hid (TqD w v V SB ca cn cc t1 T k f (some ⟨gg,0,none⟩) cap (rs++[(p,q)]) (some ⟨g,0,none⟩) oc os):=hD
   clear hD H hr hall FR kk0 kk2 kk3 hF
   obtain ⟨c0,c1,c2,c3⟩:=HD9.out.cells
   obtain ⟨r0,r1,r2,r3,r4,r5,r6,r7⟩:=cells4 HD9.out.b.res
   go_wp2
   obtain ⟨j0,j1,j2,j3⟩:=four_set HD9.out.b.res (.int .i64 k) (.int .i64 f) (.slice (some ⟨gg,0,none⟩) (rs.length+1) cap) (.slice (some ⟨g,0,none⟩) os.length oc)
   refine bodyPost_ret (v:= .agg #[.int .i64 k,.int .i64 f,.slice (some ⟨gg,0,none⟩) (rs.length+1) cap,.slice (some ⟨g,0,none⟩) os.length oc]) (by simp[results,Tryz.results21,go_sem,j0,j1,j2,j3]) rfl ?_
   exact HD9.out.ret (by omega) (⟨by simp only[List.length_append,List.length_cons,List.length_nil];omega,HFEW.out.2⟩) (by simp) _ _ _ _
  case step=>
   rintro L a V i ⟨b0,b1,b2,b3,b4,b5,b6,b7,b8,b9,b10,b11,b12,x0,x1,x2,x3,x4,x5,x6,x7,x8,x9,x10,x11,x12,rfl,FR,H⟩ hi
   have hlt:i<13:=ready_lt hi
   obtain rfl|rfl|rfl|rfl|rfl|rfl|rfl|rfl|rfl|rfl|rfl|rfl|rfl:i=0∨i=1∨i=2∨i=3∨i=4∨i=5∨i=6∨i=7∨i=8∨i=9∨i=10∨i=11∨i=12:=by omega
   ·obtain rfl:b0=false:=ready_new hi
    have k3:a.tmps[3]? =some (.pointer (some ⟨T,0,none⟩)):=FR.get 15 3 rfl rfl
    refine wpOp_run (o:=_) rfl (fun K hK=> ?_)
    go_simp
    refine hK _ _ ?_
    exact ⟨_,_,_,_,_,_,_,_,_,_,_,_,_,_,_,_,_,_,_,_,_,_,_,_,_,_,rfl,FR.put 0 22 (by decide),{H with g0:=fun _=>rfl,o1_0:=fun _=>rfl}⟩
   ·obtain rfl:b1=false:=ready_new hi
    obtain rfl:b0=true:=ready_dep (d:=0) hi (by kernel_rfl)
    obtain rfl:=H.g0 rfl
    obtain rfl:b10=false:=Bool.eq_false_iff.2 (fun h=>by have:=H.o10_1 h;simp at this)
    have hc:V.cell? ⟨T,2,none⟩=some (.slice ia rs.length ic):=by
     cases h9:b9 with
     |false=>obtain ⟨t1,_,hD⟩:=H.m0 h9;exact hD.cells.2.2.1
     |true=>obtain ⟨U,p,q,e,⟨t1,_,hD⟩,_⟩:=H.m1 h9 rfl;rw[e];exact (hD.step (below_box _)).cells.2.2.1
    have l0:a.tmps[22]? =some (.pointer (some ⟨T,2,none⟩)):=FR.get 0 22 rfl rfl
    refine wpOp_run (o:=_) rfl (fun K hK=> ?_)
    go_simp
    refine hK _ _ ?_
    exact ⟨_,_,_,_,_,_,_,_,_,_,_,_,_,_,_,_,_,_,_,_,_,_,_,_,_,_,rfl,FR.put 1 23 (by decide),{H with g1:=fun _=>rfl,o10_1:=fun _=>rfl,o1_0:=fun _=>rfl}⟩
   ·obtain rfl:b2=false:=ready_new hi
    have k0:a.tmps[0]? =some (.pointer (some ⟨SB,0,none⟩)):=FR.get 13 0 rfl rfl
    refine wpOp_run (o:=_) rfl (fun K hK=> ?_)
    go_simp
    refine hK _ _ ?_
    exact ⟨_,_,_,_,_,_,_,_,_,_,_,_,_,_,_,_,_,_,_,_,_,_,_,_,_,_,rfl,FR.put 2 24 (by decide),{H with g2:=fun _=>rfl,o4_2:=fun _=>rfl}⟩
   ·obtain rfl:b3=false:=ready_new hi
    obtain rfl:b4=false:=Bool.eq_false_iff.2 (fun h=>by have:=H.o4_3 h;simp at this)
    obtain rfl:b7=false:=Bool.eq_false_iff.2 (fun h=>by have:=H.o7_4 h;simp at this)
    obtain rfl:b8=false:=Bool.eq_false_iff.2 (fun h=>by have:=H.o8_4 h;simp at this)
    obtain rfl:b9=false:=Bool.eq_false_iff.2 (fun h=>by have:=H.o9_8 h;simp at this)
    obtain rfl:b10=false:=Bool.eq_false_iff.2 (fun h=>by have:=H.o10_9 h;simp at this)
    obtain rfl:b12=false:=Bool.eq_false_iff.2 (fun h=>by have:=H.o12_10 h;simp at this)
    obtain ⟨_,_,hD0⟩:=H.m0 rfl
    have hsb:=hD0.b.src.lt
    refine wpOp_run (o:=_) rfl (fun K hK=> ?_)
    go_simp
    refine hK _ _ ?_
    exact ⟨_,_,_,_,_,_,_,_,_,_,_,_,_,_,_,_,_,_,_,_,_,_,_,_,_,_,rfl,FR.put 3 25 (by decide),{H with m0:=fun _=>(by obtain ⟨t1,ht,hD⟩:=H.m0 rfl;exact ⟨t1,ht,hD.step (below_box _)⟩),m1:=nofun,m2:=nofun,m3:=nofun,e3:=fun _ _=>⟨_,rfl,hsb,heap_alloc_new _ _⟩,e6:=fun h h2=>(by obtain ⟨A,e,hA,hv⟩:=H.e6 h h2;exact ⟨A,e,hA,(keepb hv (below_box _)).out⟩),o4_3:=fun _=>rfl}⟩
   ·obtain rfl:b4=false:=ready_new hi
    obtain rfl:b2=true:=ready_dep (d:=2) hi (by kernel_rfl)
    obtain rfl:b3=true:=ready_dep (d:=3) hi (by kernel_rfl)
    obtain rfl:=H.g2 rfl
    obtain rfl:b7=false:=Bool.eq_false_iff.2 (fun h=>by have:=H.o7_4 h;simp at this)
    obtain rfl:b8=false:=Bool.eq_false_iff.2 (fun h=>by have:=H.o8_4 h;simp at this)
    obtain rfl:b9=false:=Bool.eq_false_iff.2 (fun h=>by have:=H.o9_8 h;simp at this)
    obtain rfl:b10=false:=Bool.eq_false_iff.2 (fun h=>by have:=H.o10_9 h;simp at this)
    obtain rfl:b12=false:=Bool.eq_false_iff.2 (fun h=>by have:=H.o12_10 h;simp at this)
    obtain ⟨A,ea,hA,hv⟩:=H.e3 rfl rfl
    subst ea
    obtain ⟨t1,ht1,hD⟩:=H.m0 rfl
    have ht2:t1≤t0+0:=ht1
    have hN:=l1Pick_any SB cn cc t1 3 3 ca (some ⟨A,0,none⟩) l0 [0,61,1] w V (by omega) (by omega) (by omega) hcn HBA.out hD.b.src (iatF3 hv) (fun b off e=>(by cases e;omega))
    have l2:a.tmps[24]? =some (.pointer (some ⟨SB,0,none⟩)):=FR.get 2 24 rfl rfl
    have l3:a.tmps[25]? =some (.slice (some ⟨A,0,none⟩) 3 3):=FR.get 3 25 rfl rfl
    refine wpOp_run (o:=_) rfl (fun K hK=> ?_)
    go_simp
    go_at_call 22
    refine hN.mono ?_
    rintro e v5 ⟨z,rfl,_,hS,hc⟩
    have hD5:=hD.draw hS hc
    go_simp
    refine hK _ _ ?_
    exact ⟨_,_,_,_,_,_,_,_,_,_,_,_,_,_,_,_,_,_,_,_,_,_,_,_,_,_,rfl,FR.put 4 26 (by decide),{H with m0:=fun _=>⟨t1+1,Nat.succ_le_succ ht2,hD5⟩,m1:=nofun,m2:=nofun,m3:=nofun,e3:=nofun,e4:=fun _=>⟨z,rfl⟩,e6:=fun h h2=>(by obtain ⟨A2,e,hA2,hv2⟩:=H.e6 h h2;exact ⟨A2,e,hA2,hc.keep1 hv2 (by omega)⟩),o7_4:=fun _=>rfl,o8_4:=fun _=>rfl,o4_2:=fun _=>rfl,o4_3:=fun _=>rfl}⟩
   ·obtain rfl:b5=false:=ready_new hi
    have k0:a.tmps[0]? =some (.pointer (some ⟨SB,0,none⟩)):=FR.get 13 0 rfl rfl
    refine wpOp_run (o:=_) rfl (fun K hK=> ?_)
    go_simp
    refine hK _ _ ?_
    exact ⟨_,_,_,_,_,_,_,_,_,_,_,_,_,_,_,_,_,_,_,_,_,_,_,_,_,_,rfl,FR.put 5 27 (by decide),{H with g5:=fun _=>rfl,o7_5:=fun _=>rfl}⟩
   ·obtain rfl:b6=false:=ready_new hi
    obtain rfl:b7=false:=Bool.eq_false_iff.2 (fun h=>by have:=H.o7_6 h;simp at this)
    obtain rfl:b8=false:=Bool.eq_false_iff.2 (fun h=>by have:=H.o8_7 h;simp at this)
    obtain rfl:b9=false:=Bool.eq_false_iff.2 (fun h=>by have:=H.o9_8 h;simp at this)
    obtain rfl:b10=false:=Bool.eq_false_iff.2 (fun h=>by have:=H.o10_9 h;simp at this)
    obtain rfl:b12=false:=Bool.eq_false_iff.2 (fun h=>by have:=H.o12_10 h;simp at this)
    obtain ⟨_,_,hD0⟩:=H.m0 rfl
    have hsb:=hD0.b.src.lt
    refine wpOp_run (o:=_) rfl (fun K hK=> ?_)
    go_simp
    refine hK _ _ ?_
    exact ⟨_,_,_,_,_,_,_,_,_,_,_,_,_,_,_,_,_,_,_,_,_,_,_,_,_,_,rfl,FR.put 6 28 (by decide),{H with m0:=fun _=>(by obtain ⟨t1,ht,hD⟩:=H.m0 rfl;exact ⟨t1,ht,hD.step (below_box _)⟩),m1:=nofun,m2:=nofun,m3:=nofun,e6:=fun _ _=>⟨_,rfl,hsb,heap_alloc_new _ _⟩,e3:=fun h h2=>(by obtain ⟨A,e,hA,hv⟩:=H.e3 h h2;exact ⟨A,e,hA,(keepb hv (below_box _)).out⟩),o7_6:=fun _=>rfl}⟩
   ·obtain rfl:b7=false:=ready_new hi
    obtain rfl:b5=true:=ready_dep (d:=5) hi (by kernel_rfl)
    obtain rfl:b6=true:=ready_dep (d:=6) hi (by kernel_rfl)
    obtain rfl:=H.g5 rfl
    obtain rfl:b4=true:=ready_dep (d:=4) hi (by kernel_rfl)
    obtain rfl:b8=false:=Bool.eq_false_iff.2 (fun h=>by have:=H.o8_7 h;simp at this)
    obtain rfl:b9=false:=Bool.eq_false_iff.2 (fun h=>by have:=H.o9_8 h;simp at this)
    obtain rfl:b10=false:=Bool.eq_false_iff.2 (fun h=>by have:=H.o10_9 h;simp at this)
    obtain rfl:b12=false:=Bool.eq_false_iff.2 (fun h=>by have:=H.o12_10 h;simp at this)
    obtain ⟨A,ea,hA,hv⟩:=H.e6 rfl rfl
    subst ea
    obtain ⟨t1,ht1,hD⟩:=H.m0 rfl
    have ht2:t1≤t0+1:=ht1
    have hN:=l1Pick_any SB cn cc t1 2 2 ca (some ⟨A,0,none⟩) l0 [0,4] w V (by omega) (by omega) (by omega) hcn HBA.out hD.b.src (iatF2 hv) (fun b off e=>(by cases e;omega))
    have l5:a.tmps[27]? =some (.pointer (some ⟨SB,0,none⟩)):=FR.get 5 27 rfl rfl
    have l6:a.tmps[28]? =some (.slice (some ⟨A,0,none⟩) 2 2):=FR.get 6 28 rfl rfl
    refine wpOp_run (o:=_) rfl (fun K hK=> ?_)
    go_simp
    go_at_call 22
    refine hN.mono ?_
    rintro e v5 ⟨z,rfl,_,hS,hc⟩
    have hD5:=hD.draw hS hc
    go_simp
    refine hK _ _ ?_
    exact ⟨_,_,_,_,_,_,_,_,_,_,_,_,_,_,_,_,_,_,_,_,_,_,_,_,_,_,rfl,FR.put 7 29 (by decide),{H with m0:=fun _=>⟨t1+1,Nat.succ_le_succ ht2,hD5⟩,m1:=nofun,m2:=nofun,m3:=nofun,e6:=nofun,e7:=fun _=>⟨z,rfl⟩,e3:=fun h h2=>(by cases h2),o8_7:=fun _=>rfl,o7_5:=fun _=>rfl,o7_6:=fun _=>rfl,o7_4:=fun _=>rfl}⟩
   ·obtain rfl:b8=false:=ready_new hi
    obtain rfl:b4=true:=ready_dep (d:=4) hi (by kernel_rfl)
    obtain rfl:b7=true:=ready_dep (d:=7) hi (by kernel_rfl)
    obtain rfl:b2=true:=H.o4_2 rfl
    obtain rfl:b3=true:=H.o4_3 rfl
    obtain rfl:b5=true:=H.o7_5 rfl
    obtain rfl:b6=true:=H.o7_6 rfl
    obtain rfl:b9=false:=Bool.eq_false_iff.2 (fun h=>by have:=H.o9_8 h;simp at this)
    obtain rfl:b10=false:=Bool.eq_false_iff.2 (fun h=>by have:=H.o10_9 h;simp at this)
    obtain rfl:b12=false:=Bool.eq_false_iff.2 (fun h=>by have:=H.o12_10 h;simp at this)
    obtain ⟨p,rfl⟩:=H.e4 rfl
    obtain ⟨q,rfl⟩:=H.e7 rfl
    have l4:a.tmps[26]? =some (.int .i64 p):=FR.get 4 26 rfl rfl
    have l7:a.tmps[29]? =some (.int .i64 q):=FR.get 7 29 rfl rfl
    refine wpOp_run (o:=_) rfl (fun K hK=> ?_)
    go_simp
    refine hK _ _ ?_
    exact ⟨_,_,_,_,_,_,_,_,_,_,_,_,_,_,_,_,_,_,_,_,_,_,_,_,_,_,rfl,FR.put 8 30 (by decide),{H with e8:=fun _=>⟨p,q,rfl⟩,o9_8:=fun _=>rfl,o8_4:=fun _=>rfl,o8_7:=fun _=>rfl}⟩
   ·obtain rfl:b9=false:=ready_new hi
    obtain rfl:b8=true:=ready_dep (d:=8) hi (by kernel_rfl)
    obtain rfl:b4=true:=H.o8_4 rfl
    obtain rfl:b7=true:=H.o8_7 rfl
    obtain rfl:b2=true:=H.o4_2 rfl
    obtain rfl:b3=true:=H.o4_3 rfl
    obtain rfl:b5=true:=H.o7_5 rfl
    obtain rfl:b6=true:=H.o7_6 rfl
    obtain rfl:b10=false:=Bool.eq_false_iff.2 (fun h=>by have:=H.o10_9 h;simp at this)
    obtain rfl:b12=false:=Bool.eq_false_iff.2 (fun h=>by have:=H.o12_10 h;simp at this)
    obtain ⟨p,q,rfl⟩:=H.e8 rfl
    obtain ⟨t1,ht1,hD⟩:=H.m0 rfl
    have ht2:t1≤t0+2:=ht1
    have l8:a.tmps[30]? =some (.agg #[.int .i64 p,.int .i64 q]):=FR.get 8 30 rfl rfl
    refine wpOp_run (o:=_) rfl (fun K hK=> ?_)
    go_simp
    refine hK _ _ ?_
    exact ⟨_,_,_,_,_,_,_,_,_,_,_,_,_,_,_,_,_,_,_,_,_,_,_,_,_,_,rfl,FR.put 9 31 (by decide),{H with m0:=nofun,m1:=fun _ _=>⟨V,p,q,rfl,⟨t1,ht2,hD⟩,rfl⟩,m2:=nofun,m3:=nofun,e3:=fun h h2=>(by cases h2),e6:=fun h h2=>(by cases h2),o10_9:=fun _=>rfl,o9_8:=fun _=>rfl}⟩
   ·obtain rfl:b10=false:=ready_new hi
    obtain rfl:b1=true:=ready_dep (d:=1) hi (by kernel_rfl)
    obtain rfl:b9=true:=ready_dep (d:=9) hi (by kernel_rfl)
    obtain rfl:b0=true:=H.o1_0 rfl
    obtain rfl:b8=true:=H.o9_8 rfl
    obtain rfl:b4=true:=H.o8_4 rfl
    obtain rfl:b7=true:=H.o8_7 rfl
    obtain rfl:b2=true:=H.o4_2 rfl
    obtain rfl:b3=true:=H.o4_3 rfl
    obtain rfl:b5=true:=H.o7_5 rfl
    obtain rfl:b6=true:=H.o7_6 rfl
    obtain rfl:=H.g1 rfl
    obtain rfl:b12=false:=Bool.eq_false_iff.2 (fun h=>by have:=H.o12_10 h;simp at this)
    obtain ⟨U,p,q,rfl,⟨t1,ht1,hD⟩,e9⟩:=H.m1 rfl rfl
    subst e9
    obtain ⟨gg,cap,w5,hrun,⟨c5,d5⟩,HD5⟩:=hD.moreR p q (by omega)
    have l1:a.tmps[23]? =some (.slice ia rs.length ic):=FR.get 1 23 rfl rfl
    have l9:a.tmps[31]? =some (.slice (some ⟨U.heap.size,0,none⟩) 1 1):=FR.get 9 31 rfl rfl
    refine wpOp_run (o:=_) rfl (fun K hK=> ?_)
    refine step_append_run (by rfl) (.tmp 23) (.tmp 31) 29 (by rfl) (eval_tmp l1) (eval_tmp l9) hrun ?_
    refine hK _ _ ?_
    exact ⟨_,_,_,_,_,_,_,_,_,_,_,_,_,_,_,_,_,_,_,_,_,_,_,_,_,_,rfl,FR.put 10 32 (by decide),{H with m0:=nofun,m1:=fun _ h=>(by cases h),m2:=fun _ _=>⟨gg,cap,p,q,rfl,c5,d5,t1,ht1,HD5.out⟩,m3:=nofun,e3:=fun h h2=>(by cases h2),e6:=fun h h2=>(by cases h2),o12_10:=fun _=>rfl,o10_1:=fun _=>rfl,o10_9:=fun _=>rfl}⟩
   ·obtain rfl:b11=false:=ready_new hi
    have k3:a.tmps[3]? =some (.pointer (some ⟨T,0,none⟩)):=FR.get 15 3 rfl rfl
    refine wpOp_run (o:=_) rfl (fun K hK=> ?_)
    go_simp
    refine hK _ _ ?_
    exact ⟨_,_,_,_,_,_,_,_,_,_,_,_,_,_,_,_,_,_,_,_,_,_,_,_,_,_,rfl,FR.put 11 33 (by decide),{H with g11:=fun _=>rfl,o12_11:=fun _=>rfl}⟩
   ·obtain rfl:b12=false:=ready_new hi
    obtain rfl:b10=true:=ready_dep (d:=10) hi (by kernel_rfl)
    obtain rfl:b11=true:=ready_dep (d:=11) hi (by kernel_rfl)
    obtain rfl:b1=true:=H.o10_1 rfl
    obtain rfl:b9=true:=H.o10_9 rfl
    obtain rfl:b0=true:=H.o1_0 rfl
    obtain rfl:b8=true:=H.o9_8 rfl
    obtain rfl:b4=true:=H.o8_4 rfl
    obtain rfl:b7=true:=H.o8_7 rfl
    obtain rfl:b2=true:=H.o4_2 rfl
    obtain rfl:b3=true:=H.o4_3 rfl
    obtain rfl:b5=true:=H.o7_5 rfl
    obtain rfl:b6=true:=H.o7_6 rfl
    obtain rfl:=H.g11 rfl
    obtain ⟨gg,cap,p,q,e10,c5,d5,t1,ht1,hD⟩:=H.m2 rfl rfl
    subst e10
    have l10:a.tmps[32]? =some (.slice (some ⟨gg,0,none⟩) (rs.length+1) cap):=FR.get 10 32 rfl rfl
    have l11:a.tmps[33]? =some (.pointer (some ⟨T,2,none⟩)):=FR.get 11 33 rfl rfl
    refine wpOp_run (o:=_) rfl (fun K hK=> ?_)
    go_simp
    refine hK _ _ ?_
    exact ⟨_,_,_,_,_,_,_,_,_,_,_,_,_,_,_,_,_,_,_,_,_,_,_,_,_,_,rfl,FR.skip 12 rfl,{H with m0:=nofun,m1:=fun _ h=>(by cases h),m2:=fun _ h=>(by cases h),m3:=fun _=>⟨gg,cap,p,q,t1,ht1,hD⟩,e3:=fun h h2=>(by cases h2),e6:=fun h h2=>(by cases h2),o12_10:=fun _=>rfl,o12_11:=fun _=>rfl}⟩
 have e2b:(r==2)=false:=by simpa using e2
 by_cases e3:r=3
 ·subst e3
  obtain ⟨⟨u,y0,y1,y2,y3⟩,fz,hgv,hgT⟩:=HD8.out.out0 HOP.out
  have hosn:0<os.length:=HOP.out
  have hos:(0:Int)<(os.length:Int):=by omega
  have HDd:Hid (TqD w v (v8.alloc (.cells #[.int .i64 0,.int .i64 1,.int .i64 1000001,.int .i64 99] 2)).drew SB ca cn cc t0 T k f ia ic rs (some ⟨g,0,none⟩) oc os):=(HD8.out.step (below_box _)).step (Below.refl _ _).drew
  have hp:=l1Pick_any SB cn cc t0 4 4 ca (some ⟨v8.heap.size,0,none⟩) l0 [0,1,1000001,99] w (v8.alloc (.cells #[.int .i64 0,.int .i64 1,.int .i64 1000001,.int .i64 99] 2)).drew (by omega) (by omega) (by omega) hcn HBA.out HDd.out.b.src ((iatK4 v8 0 1 1000001 99).below (Below.refl _ _).drew (Nat.le_refl _)) (fun b off e=>(by cases e;omega))
  have d3:=HDd.out.cells.2.2.2
  clear r0 r1 r2 r3 r4 r5 r6 r7
  go_wp2
  go_region_held3 (fun w'=>w'.cell? ⟨T,3,none⟩=some (.slice (some ⟨g,0,none⟩) os.length oc)) (first|(with_reducible exact c3)|(with_reducible exact d3)|(with_reducible exact e3c)|go_keep) (first
   |(go_at_call 22;(with_reducible refine hp.mono ?_);clear hp;rintro e v9 ⟨z,rfl,_,hS9,hc9⟩;have HD9:Hid (TqD w v v9 SB ca cn cc (t0+1) T k f ia ic rs (some ⟨g,0,none⟩) oc os):=HDd.out.draw hS9 hc9;clear hS9 hc9;have e3c:=HD9.out.cells.2.2.2;obtain ⟨⟨u9,z0,_⟩,fz9,_,_⟩:=HD9.out.out0 HOP.out;have f9:=fz9 0;have HP:Hid (TqD w v (v9.setCell ⟨g,0,none⟩ (.int .i64 z)) SB ca cn cc (t0+1) T k f ia ic rs (some ⟨g,0,none⟩) oc (os.set 0 {os.getD 0 O0 with v:=z})):=HD9.out.setV HOP.out z;obtain ⟨x0,x1,x2,x3⟩:=HP.out.cells;obtain ⟨s0,s1,s2,s3,s4,s5,s6,s7⟩:=cells4 HP.out.b.res))
  go_wp2
  obtain ⟨j0,j1,j2,j3⟩:=four_set HP.out.b.res (.int .i64 k) (.int .i64 f) (.slice ia rs.length ic) (.slice (some ⟨g,0,none⟩) os.length oc)
  refine bodyPost_ret (v:= .agg #[.int .i64 k,.int .i64 f,.slice ia rs.length ic,.slice (some ⟨g,0,none⟩) os.length oc]) (by simp[results,Tryz.results21,go_sem,j0,j1,j2,j3]) rfl ?_
  exact HP.out.ret (by omega) ⟨HFEW.out.1,by rw[List.length_set];exact HFEW.out.2.1,few_set HFEW.out.2.2 (show (os.getD 0 O0).l.length≤4 from HFEW.out.2.2 _ (getD_mem HOP.out))⟩ (by simp) _ _ _ _
 have e3b:(r==3)=false:=by simpa using e3
 by_cases e4:r=4
 ·subst e4
  obtain ⟨⟨u,y0,y1,y2,y3⟩,fz,hgv,hgT⟩:=HD8.out.out0 HOP.out
  have hosn:0<os.length:=HOP.out
  have hos:(0:Int)<(os.length:Int):=by omega
  have HDd:Hid (TqD w v v8.drew SB ca cn cc t0 T k f ia ic rs (some ⟨g,0,none⟩) oc os):=HD8.out.step (Below.refl _ _).drew
  have hp:=l2Bent_any SB cn cc t0 ca l0 w v8.drew (by omega) hcn HBA.out HDd.out.b.src
  have d3:=HDd.out.cells.2.2.2
  clear r0 r1 r2 r3 r4 r5 r6 r7
  go_wp2
  go_region_held3 (fun w'=>w'.cell? ⟨T,3,none⟩=some (.slice (some ⟨g,0,none⟩) os.length oc)) (first|(with_reducible exact c3)|(with_reducible exact d3)|(with_reducible exact e3c)|go_keep) (first
   |(go_at_call 53;(with_reducible refine hp.mono ?_);clear hp;rintro e v9 ⟨l,x,y,ka,kc,t4,rfl,HR4,HK4,ht4,HS4,HC4⟩;have HD9:Hid (TqD w v v9 SB ca cn cc t4 T k f ia ic rs (some ⟨g,0,none⟩) oc os):=HDd.out.draw HS4.out HC4.out;have e3c:=HD9.out.cells.2.2.2;obtain ⟨⟨u9,z0,z1,z2,z3⟩,fz9,_,_⟩:=HD9.out.out0 HOP.out;have f1:=fz9 1;have f2:=fz9 2;have f3:=fz9 3;have HP:Hid (TqD w v (((v9.setCell ⟨g,1,none⟩ (.slice ka l.length kc)).setCell ⟨g,2,none⟩ (.int .i64 x)).setCell ⟨g,3,none⟩ (.int .i64 y)) SB ca cn cc t4 T k f ia ic rs (some ⟨g,0,none⟩) oc (os.set 0 ⟨(os.getD 0 O0).v,l,x,y⟩)):=HDd.out.setRl rfl HOP.out HS4.out HC4.out HR4.out;obtain ⟨x0,x1,x2,x3⟩:=HP.out.cells;obtain ⟨s0,s1,s2,s3,s4,s5,s6,s7⟩:=cells4 HP.out.b.res))
  go_wp2
  obtain ⟨j0,j1,j2,j3⟩:=four_set HP.out.b.res (.int .i64 k) (.int .i64 f) (.slice ia rs.length ic) (.slice (some ⟨g,0,none⟩) os.length oc)
  refine bodyPost_ret (v:= .agg #[.int .i64 k,.int .i64 f,.slice ia rs.length ic,.slice (some ⟨g,0,none⟩) os.length oc]) (by simp[results,Tryz.results21,go_sem,j0,j1,j2,j3]) rfl ?_
  exact HP.out.ret (by omega) ⟨HFEW.out.1,by rw[List.length_set];exact HFEW.out.2.1,few_set HFEW.out.2.2 HK4.out.1⟩ (by simp) _ _ _ _
 have e4b:(r==4)=false:=by simpa using e4
 by_cases e5:r=5
 ·subst e5
  have HP:Hid (TqD w v (v8.setCell ⟨T,2,none⟩ (.slice none 0 0)) SB ca cn cc t0 T k f none 0 [] (some ⟨g,0,none⟩) oc os):=HD8.out.noR
  have f2:=HD8.out.fz 2
  obtain ⟨x0,x1,x2,x3⟩:=HP.out.cells
  obtain ⟨s0,s1,s2,s3,s4,s5,s6,s7⟩:=cells4 HP.out.b.res
  clear r0 r1 r2 r3 r4 r5 r6 r7
  go_wp2
  obtain ⟨j0,j1,j2,j3⟩:=four_set HP.out.b.res (.int .i64 k) (.int .i64 f) (.slice none 0 0) (.slice (some ⟨g,0,none⟩) os.length oc)
  refine bodyPost_ret (v:= .agg #[.int .i64 k,.int .i64 f,.slice none 0 0,.slice (some ⟨g,0,none⟩) os.length oc]) (by simp[results,Tryz.results21,go_sem,j0,j1,j2,j3]) rfl ?_
  exact HP.out.ret (by omega) ⟨Nat.zero_le _,HFEW.out.2⟩ rfl _ _ _ _
 have e5b:(r==5)=false:=by simpa using e5
 by_cases e6:r=6
 ·subst e6
  go_wp2_with (first
   |(at_make;refine wpList_make_full _ rfl _ _ 30 rfl v8.heap.size 52 i0 (.agg #[.int .i64 0,.slice none 0 0,.int .i64 0,.int .i64 0]) 4 Tryz.underlying30 hi hz0 hz1 _ _ _ _ 5 rfl rfl (by omega) (by omega) (by rw[hz2];omega) (by unfold maxLen;omega) (Nat.le_refl _) ?_;intro v9 ho9 hg9;have hb9:Below v8.heap.size v8 v9:=(Below.refl _ _).grown hg9 (Nat.le_refl _) (fun k h=>(by cases h));have HM:Hid (TqD w v (v9.setCell ⟨T,3,none⟩ (.slice (some ⟨v8.heap.size,0,none⟩) 5 5)) SB ca cn cc t0 T k f ia ic rs (some ⟨v8.heap.size,0,none⟩) 5 (List.replicate 5 O0)):=HD8.out.make5 ho9 hb9;have HD9:=HD8.out.step hb9;clear c0 c1 c2 c3 r0 r1 r2 r3 r4 r5 r6 r7;obtain ⟨c0,c1,c2,c3⟩:=HD9.cells;have f3:=HD9.fz 3;obtain ⟨x0,x1,x2,x3⟩:=HM.out.cells;obtain ⟨s0,s1,s2,s3,s4,s5,s6,s7⟩:=cells4 HM.out.b.res;clear ho9 hg9 hb9 HD9))
  obtain ⟨j0,j1,j2,j3⟩:=four_set HM.out.b.res (.int .i64 k) (.int .i64 f) (.slice ia rs.length ic) (.slice (some ⟨v8.heap.size,0,none⟩) 5 5)
  refine bodyPost_ret (v:= .agg #[.int .i64 k,.int .i64 f,.slice ia rs.length ic,.slice (some ⟨v8.heap.size,0,none⟩) 5 5]) (by simp[results,Tryz.results21,go_sem,j0,j1,j2,j3]) rfl ?_
  exact HM.out.ret (by omega) ⟨HFEW.out.1,by simp,fun o ho=>by rw[List.eq_of_mem_replicate ho];simp[O0]⟩ rfl _ _ _ _
 have e6b:(r==6)=false:=by simpa using e6
 go_wp2
 obtain ⟨j0,j1,j2,j3⟩:=four_set HD8.out.b.res (.int .i64 k) (.int .i64 f) (.slice ia rs.length ic) (.slice (some ⟨g,0,none⟩) os.length oc)
 refine bodyPost_ret (v:= .agg #[.int .i64 k,.int .i64 f,.slice ia rs.length ic,.slice (some ⟨g,0,none⟩) os.length oc]) (by simp[results,Tryz.results21,go_sem,j0,j1,j2,j3]) rfl ?_
 exact HD8.out.ret (by omega) HFEW.out rfl _ _ _ _
end Go.Proofs.YtagokfoimokniaaGreatDoor

namespace Go.Proofs.YtagokfoimokniaaGreatDoor
open Go.RowKit Go.Maps Go.WideMaps

def dropP (ps : List (Co × Value)) (r : Int × Int) : List (Co × Value) := ps.filter fun x => decide (refOf x ≠ r)
theorem find_drop {ps : List (Co × Value)} {r t : Int × Int} : findP (dropP ps r) t = if t = r then none else findP ps t := by
  unfold findP dropP
  induction ps with
  | nil => simp
  | cons x l ih =>
    by_cases e : refOf x = r
    · rw [List.filter_cons_of_neg (by simp [e]), ih]
      by_cases e2 : t = r
      · rw [if_pos e2, if_pos e2]
      · rw [if_neg e2, if_neg e2, List.find?_cons_of_neg (by simp; exact fun e3 => e2 (e3.symm.trans e))]
    · rw [List.filter_cons_of_pos (by simp [e])]
      by_cases e3 : refOf x = t
      · rw [List.find?_cons_of_pos (by simp [e3]), if_neg (fun e4 => e (e3.trans e4)), List.find?_cons_of_pos (by simp [e3])]
      · rw [List.find?_cons_of_neg (by simp [e3]), ih, List.find?_cons_of_neg (by simp [e3])]

theorem refs_inj {ps : List (Co × Value)} (h : ps.Pairwise fun x y => refOf x ≠ refOf y) : ∀ x ∈ ps, ∀ y ∈ ps, refOf x = refOf y → x = y := by
  induction ps with
  | nil => intro x hx; cases hx
  | cons a l ih =>
    rw [List.pairwise_cons] at h
    intro x hx y hy e
    rcases List.mem_cons.1 hx with e1 | h1 <;> rcases List.mem_cons.1 hy with e2 | h2
    · rw [e1, e2]
    · rw [e1] at e; exact absurd e (h.1 y h2)
    · rw [e2] at e; exact absurd e.symm (h.1 x h1)
    · exact ih h.2 x h1 y h2 e
theorem find_mem {ps : List (Co × Value)} (h : ps.Pairwise fun x y => refOf x ≠ refOf y) {x : Co × Value} (hx : x ∈ ps) : findP ps (refOf x) = some x := by
  cases hf : findP ps (refOf x) with
  | none =>
    unfold findP at hf
    rw [List.find?_eq_none] at hf
    exact absurd (by simp) (hf x hx)
  | some y =>
    unfold findP at hf
    have h1 := List.mem_of_find?_eq_some hf
    have h2 := List.find?_some hf
    rw [refs_inj h y h1 x hx (by simpa using h2)]
theorem find_get {ps : List (Co × Value)} {r : Int × Int} {x : Co × Value} (h : findP ps r = some x) : x ∈ ps ∧ refOf x = r := by
  unfold findP at h
  exact ⟨List.mem_of_find?_eq_some h, by simpa using List.find?_some h⟩
theorem drop_length {ps : List (Co × Value)} (h : ps.Pairwise fun x y => refOf x ≠ refOf y) {r : Int × Int} {x : Co × Value} (hx : findP ps r = some x) : (dropP ps r).length + 1 = ps.length := by
  induction ps with
  | nil => simp [findP] at hx
  | cons a l ih =>
    rw [List.pairwise_cons] at h
    by_cases e : refOf a = r
    · have h2 : dropP l r = l := by
        unfold dropP
        rw [List.filter_eq_self]
        intro y hy
        have := h.1 y hy
        rw [e] at this
        simpa using this.symm
      have h3 : dropP (a :: l) r = dropP l r := by unfold dropP; rw [List.filter_cons_of_neg (by simp [e])]
      rw [h3, h2]
      rfl
    · have h3 : dropP (a :: l) r = a :: dropP l r := by unfold dropP; rw [List.filter_cons_of_pos (by simp [e])]
      have h4 : findP l r = some x := by unfold findP at hx ⊢; rwa [List.find?_cons_of_neg (by simp [e])] at hx
      have := ih h.2 h4
      rw [h3]
      simp only [List.length_cons]
      omega

theorem Pu.drop {w : World} {lo B : Nat} {ps : List (Co × Value)} (h : Pu w lo B ps) {r : Int × Int} {x : Co × Value} (hx : findP ps r = some x) (hp : (Lit.int .i64 r.1).wf = true) (hq : (Lit.int .i64 r.2).wf = true) (ty : TypeId) :
    ∃ w', (Builtin.delete_ #[75, 47] ty #[.map (some B), encR r]).run Tryz.prog w = .ok (.tuple #[]) w' ∧ Pu w' lo B (dropP ps r) ∧ w.mapTurned w' B := by
  obtain ⟨D, ho, hsz, hat⟩ := h.map
  obtain ⟨kl, hk⟩ := keyRf (r := r) hp hq
  obtain ⟨w', hrun, ho', hg⟩ := ho.drop kR Tryz.underlying75 hk ty
  have hyes : Maps.has D kl = true := by have := hat r kl hk; rw [hx] at this; exact this.1
  have hs2 : Maps.size (D.del kl) = (dropP ps r).length := by
    have h1 := size_del (k := kl) (ho.tidy kR)
    have h2 := drop_length h.refs hx
    rw [hyes] at h1
    simp at h1
    omega
  have ho2 := ownsMap_tight ho'
  rw [hs2] at ho2
  have nb : ∀ y ∈ ps, y.2.ownBlock ≠ some B := fun y hy e => by
    obtain ⟨es, clock, hb, _⟩ := ho
    rcases (h.rows y hy).2 with ⟨e1, _⟩ | ⟨g, c, cur, e1, _, hh, _⟩
    · rw [e1] at e; cases e
    · rw [e1] at e
      have : g = B := by simpa [Value.ownBlock] using e
      rw [this, hb] at hh
      cases hh
  have hsub : ∀ y ∈ dropP ps r, y ∈ ps := fun y hy => (List.mem_filter.1 hy).1
  refine ⟨w', hrun, ⟨⟨D.del kl, ho2, hs2, fun t kl' ht => ?_⟩, fun y hy => (h.rows y (hsub y hy)).kept (hg.grown) (.inr (nb y (hsub y hy))), h.base, h.apart.filter _, h.refs.filter _, fun y hy => h.wfs y (hsub y hy)⟩, hg⟩
  rw [find_drop]
  by_cases e : t = r
  · subst e
    rw [hk] at ht
    cases ht
    rw [if_pos rfl]
    exact ⟨has_del_same, fun zd => atKey_del_same zd⟩
  · rw [if_neg e]
    have hne : kl' ≠ kl := fun e2 => e (encR_inj (kR.inj ht (by rw [e2]; exact hk)))
    have hl2 := hat t kl' ht
    cases hf : findP ps t with
    | none =>
      rw [hf] at hl2
      exact ⟨(has_del_other hne).trans hl2.1, fun zd => (atKey_del_other hne zd).trans (hl2.2 zd)⟩
    | some y =>
      rw [hf] at hl2
      exact ⟨(has_del_other hne).trans hl2.1, fun zd => (atKey_del_other hne zd).trans (hl2.2 zd)⟩

end Go.Proofs.YtagokfoimokniaaGreatDoor

namespace Go.Proofs.YtagokfoimokniaaGreatDoor
open Go.RowKit Go.Maps Go.WideMaps Go.Shelf
attribute [local go_sem] Oper.semAt_some

/-- A coin as the map tells it: its keys are a slice. -/
abbrev SC := { x : Co × Value // ∃ a n c, x.2 = Value.slice a n c }
abbrev encsC (x : SC) : Array Value := #[coV x.1]
def cellsC (x : SC) : List Value := [.int .i64 x.1.1.p, .int .i64 x.1.1.q, .int .i64 x.1.1.v, x.1.2, .int .i64 x.1.1.x, .int .i64 x.1.1.y, .int .i64 x.1.1.h, .bool x.1.1.m]

def ComeC (ps : List (Co × Value)) (left : Lit → Bool) (ss : List SC) : Prop :=
  (∀ x ∈ ss, x.1 ∈ ps) ∧ (ss.Pairwise fun x y => refOf x.1 ≠ refOf y.1) ∧ ∀ x ∈ ps, ∀ kl, keyOf Tryz.prog 47 (encR (refOf x)) = some kl → (left kl = true ↔ ¬ ∃ y ∈ ss, y.1 = x)
def AllC (ps : List (Co × Value)) (ss : List SC) : Prop :=
  (∀ x ∈ ss, x.1 ∈ ps) ∧ (ss.Pairwise fun x y => refOf x.1 ≠ refOf y.1) ∧ ∀ x ∈ ps, ∃ y ∈ ss, y.1 = x

/-- What the map tells of the refs. -/
structure Told (D : DataW Value) (ps : List (Co × Value)) : Prop where
  size : Maps.size D = ps.length
  look : ∀ r kl, keyOf Tryz.prog 47 (encR r) = some kl → LookD D kl (findP ps r)
  refs : ps.Pairwise fun x y => refOf x ≠ refOf y
  wfs : ∀ x ∈ ps, (Lit.int .i64 x.1.p).wf = true ∧ (Lit.int .i64 x.1.q).wf = true
  sl : ∀ x ∈ ps, ∃ a n c, x.2 = Value.slice a n c

theorem come_start {D : DataW Value} {ps : List (Co × Value)} (h : Told D ps) : ComeC ps (fun kl => Maps.has D kl) [] := by
  refine ⟨fun x hx => (by cases hx), List.Pairwise.nil, fun x hx kl hk => ?_⟩
  have := h.look (refOf x) kl hk
  rw [find_mem h.refs hx] at this
  simp [this.1]
theorem come_all {ps : List (Co × Value)} {left : Lit → Bool} {ss : List SC} (h : ComeC ps left ss) (hw : ∀ x ∈ ps, (Lit.int .i64 x.1.p).wf = true ∧ (Lit.int .i64 x.1.q).wf = true) (hl : ∀ kl, left kl = false) : AllC ps ss := by
  refine ⟨h.1, h.2.1, fun x hx => ?_⟩
  obtain ⟨kl, hk⟩ := keyRf (r := refOf x) (hw x hx).1 (hw x hx).2
  have := h.2.2 x hx kl hk
  rw [hl kl] at this
  exact Classical.byContradiction fun e => by simpa using this.2 e
theorem come_step {ps : List (Co × Value)} {left : Lit → Bool} {ss : List SC} (h : ComeC ps left ss) (hrefs : ps.Pairwise fun x y => refOf x ≠ refOf y) {z : SC} {kl : Lit} (hz : z.1 ∈ ps) (hk : keyOf Tryz.prog 47 (encR (refOf z.1)) = some kl) (hl : left kl = true) :
    ComeC ps (fun t => left t && !t.sameKey kl) (ss ++ [z]) := by
  have hno := (h.2.2 z.1 hz kl hk).1 hl
  refine ⟨fun x hx => ?_, ?_, fun x hx kl' hk' => ?_⟩
  · rcases List.mem_append.1 hx with hx | hx
    · exact h.1 x hx
    · obtain rfl := List.mem_singleton.1 hx; exact hz
  · rw [List.pairwise_append]
    refine ⟨h.2.1, List.pairwise_singleton _ _, fun x hx y hy e => ?_⟩
    obtain rfl := List.mem_singleton.1 hy
    exact hno ⟨x, hx, refs_inj hrefs x.1 (h.1 x hx) y.1 hz e⟩
  · by_cases e : x = z.1
    · subst e
      rw [hk] at hk'
      cases hk'
      show (left kl && !kl.sameKey kl) = true ↔ _
      rw [WideAt.sameKey_self (kR.key hk)]
      simp
    · have hne : kl' ≠ kl := fun e2 => e (refs_inj hrefs x hx z.1 hz (encR_inj (kR.inj hk' (by rw [e2]; exact hk))))
      show (left kl' && !kl'.sameKey kl) = true ↔ _
      rw [sameKey_ne hne]
      simp only [Bool.not_false, Bool.and_true]
      rw [h.2.2 x hx kl' hk']
      constructor
      · rintro h1 ⟨y, hy, e2⟩
        rcases List.mem_append.1 hy with hy | hy
        · exact h1 ⟨y, hy, e2⟩
        · obtain rfl := List.mem_singleton.1 hy; exact e e2.symm
      · rintro h1 ⟨y, hy, e2⟩
        exact h1 ⟨y, List.mem_append_left _ hy, e2⟩

/-- The entry that has come is a coin of the purse. -/
theorem come_which {D : DataW Value} {ps : List (Co × Value)} (h : Told D ps) {key c : Value} {kl : Lit} (hk : keyOf Tryz.prog 47 key = some kl) (hat : ∀ zd, D.atKey kl zd = .held c) :
    ∃ z : SC, z.1 ∈ ps ∧ key = encR (refOf z.1) ∧ c = coV z.1 ∧ (Lit.int .i64 z.1.1.p).wf = true ∧ (Lit.int .i64 z.1.1.q).wf = true := by
  obtain ⟨r, rfl, _, _⟩ := keyRf_inv hk
  have hl := h.look r kl hk
  cases hf : findP ps r with
  | none =>
    rw [hf] at hl
    have := (hl.2 (.lit (.bool true))).symm.trans (hat _)
    cases this
  | some z =>
    rw [hf] at hl
    have := (hl.2 (.lit (.bool true))).symm.trans (hat _)
    obtain ⟨h1, h2⟩ := find_get hf
    exact ⟨⟨z, h.sl z h1⟩, h1, by rw [← h2], (DataW.held.inj this).symm, h.wfs z h1⟩

set_option maxRecDepth 100000 in
set_option maxHeartbeats 2000000 in
theorem valuesC_in (n : Nat) (hn : 1 ≤ n) (l Bm b : Nat) (ps : List (Co × Value)) (D : DataW Value) (J Jx : List SC → World → Prop)
    (hY : ∀ pre x W, J pre W → pre.length < ps.length → YieldAt Fence.wide (n - 1) Tryz.prog l (encsC x) W fun e W' =>
      (e = .returned (.bool true) ∧ J (pre ++ [x]) W' ∧ KeepsWalks W W') ∨ (e = .returned (.bool false) ∧ Jx (pre ++ [x]) W'))
    (W : World) (hJ : AbidesFrom W.heap.size J) (hm : W.cell? ⟨Bm, 0, none⟩ = some (.map (some b))) (hown : W.ownsMap Tryz.prog 47 Rv b ps.length D) (hT : Told D ps) (h0 : J [] W) :
    CallsIn Fence.wide n Tryz.prog 142 #[.func (.yield l) #[] #[], .pointer (some ⟨Bm, 0, none⟩)] W fun e W' => (∃ v, e = .returned v) ∧
      ((∃ xs, AllC ps xs ∧ J xs W') ∨ (∃ pre : List SC, True ∧ Jx pre W')) := by
  refine callsIn_of_wp Tryz.func142 rfl trivial ?_ rfl
  simp only [Tryz.ntmps142, List.size_toArray, List.length_cons, List.length_nil, Nat.reduceAdd, Nat.reduceSub, Array.replicate_succ, Array.replicate_zero, List.push_toArray, List.append_toArray, List.nil_append, List.cons_append]
  gi_wp2_with (first
    | (gi_at_range; refine wpListIn_range_own _ rfl _ 75 rfl 47 54 kR Tryz.underlying75 _ b ps.length _ rfl hown ?_; intro w0 hrg0 hg0 hs0)
    | gi_in)
  go_frame
  gi_loopw [4] (fun _ wr => ∃ (left : Lit → Bool) (cnt : Nat) (ss : List SC), wr.ranges Tryz.prog 47 Rv b W.heap.size ps.length D left cnt ∧ ss.length + cnt ≤ ps.length ∧ ComeC ps left ss ∧ J ss wr)
    (fun _ wr => wr.rangeLeft b W.heap.size)
  case atStart =>
    exact ⟨_, _, [], hrg0, by simp [hT.size], come_start hT, hJ [] W w0 none h0 hg0 (fun r e => by cases e)⟩
  case round =>
    obtain ⟨left, cnt, ss, hrg, hcs, hC, hJs⟩ := hrel
    gi_wp2_with (first
      | (gi_at_next; refine wpListIn_next_ranges _ rfl _ rfl 47 kR Rv id id (fun key kl hk => ⟨key, rfl⟩) (fun v _ _ => ⟨v, rfl⟩) b W.heap.size ps.length _ _ _ rfl hrg ?_ ?_)
      | gi_in)
    · intro hc0 hl0
      gi_wp2
      go_end0
      exact ⟨⟨_, rfl⟩, .inl ⟨ss, come_all hC hT.wfs hl0, hJs⟩⟩
    · intro x c kl yd yp w2 cnt2 hkey hlk hv hat hrg2 hlt hg2 hs2 hen
      obtain rfl : yd = .held c := (Prod.mk.inj (show (DataW.held c, ([] : List MemPlace)) = (yd, yp) from Option.some.inj hv)).1.symm
      obtain ⟨z, hz, rfl, rfl, hw1, hw2⟩ := come_which hT (show keyOf Tryz.prog 47 x = some kl from hkey) hat
      have hC2 := come_step hC hT.refs hz (show keyOf Tryz.prog 47 (encR (refOf z.1)) = some kl from hkey) hlk
      obtain ⟨⟨zc, zu⟩, za, zn, zp, hzu⟩ := z
      simp only at hzu
      subst hzu
      have hJ2 : J ss w2 := hJ _ wr w2 (some W.heap.size) hJs hg2 (fun r e => by cases e; exact ⟨Nat.le_refl _, hrg.iter_walk⟩)
      have hJ3 : J ss (w2.alloc (.cells #[.int .i64 zc.p, .int .i64 zc.q, .int .i64 zc.v, .slice za zn zp, .int .i64 zc.x, .int .i64 zc.y, .int .i64 zc.h, .bool zc.m] 54)) := hJ _ w2 _ none hJ2 (grown_of_below (below_box _)) (fun r e => by cases e)
      obtain ⟨fn, tmps, assign, body, hy, hR⟩ := hY ss ⟨(zc, .slice za zn zp), za, zn, zp, rfl⟩ _ hJ3 (by omega)
      dsimp only [encsC, coV] at hy
      dsimp only [coV, encR, refOf, id] at hen ⊢
      clear hs2
      gi_wp2
      refine hR.mono ?_
      rintro e W3 (⟨rfl, hJ4, hk3⟩ | ⟨rfl, hJx3⟩)
      · gi_wp2
        have hrg3 := (hrg2.of_walks (KeepsWalks.alloc _ _)).of_walks hk3
        go_roundw
        case rel => exact ⟨_, cnt2, _, hrg3, by simp; omega, hC2, hJ4⟩
        case measure => rw [hrg3.left_eq, hrg.left_eq]; exact hlt
      · gi_wp2
        refine bodyPost_ret (results_none rfl _ _ _) rfl ?_
        exact ⟨⟨_, rfl⟩, .inr ⟨_, trivial, hJx3⟩⟩

theorem valuesC_stops (n : Nat) (hn : 1 ≤ n) (Bm b lo : Nat) (ps : List (Co × Value)) (w : World) (hBm : Bm < w.heap.size) (hm : w.cell? ⟨Bm, 0, none⟩ = some (.map (some b))) (hP : Pu w lo b ps) :
    SeqStopsK Fence.wide n Tryz.prog 142 #[.pointer (some ⟨Bm, 0, none⟩)] encsC KeepsWalks (AllC ps) (fun _ => True) ps.length w := fun l J Jx W hW hJ _ hY h0 => by
  obtain ⟨D, ho, hsz, hat⟩ := hP.map
  have hown : W.ownsMap Tryz.prog 47 Rv b ps.length D := ho.kept (grown_of_below hW) (by simp)
  exact valuesC_in n hn l Bm b ps D J Jx hY W hJ ((hW.cell (p := ⟨Bm, 0, none⟩) hBm).trans hm) hown ⟨hsz, hat, hP.refs, hP.wfs, fun x hx => by
    rcases (hP.rows x hx).2 with ⟨e1, _⟩ | ⟨g, cp, cur, e1, _⟩
    · exact ⟨none, 0, 0, e1⟩
    · exact ⟨_, _, _, e1⟩⟩ h0

set_option maxHeartbeats 1000000 in
theorem values_any (B : Nat) (w : World) :
    Calls Tryz.prog 96 #[.map (some B)] w fun e w' => e = .returned (.func (.func 142) #[] #[.pointer (some ⟨w.heap.size, 0, none⟩)]) ∧ w' = w.alloc (.cells #[.map (some B)] 75) := by
  go_enter Tryz.func96, Tryz.ntmps96
  go_wp2
  go_ret
  exact ⟨rfl, rfl⟩

theorem walks_of_others {A B : World} (h : KeepsOthers A B) : KeepsWalks A B := ⟨h.size, fun k o hk ho => h.same k o hk (by cases o <;> first | rfl | cases ho)⟩

/-- The loop's own variable in its block. -/
def AxC (w0 : World) (sv : Value) (x : SC) (a' : Act) (W : World) : Prop :=
  ∃ Bq0, W.heap[Bq0]? = some (.cells #[.int .i64 x.1.1.p, .int .i64 x.1.1.q, .int .i64 x.1.1.v, x.1.2, .int .i64 x.1.1.x, .int .i64 x.1.1.y, .int .i64 x.1.1.h, .bool x.1.1.m] 54 (0, 0)) ∧
    a' = { tmps := #[.slice none 0 0, sv, .pointer (some ⟨w0.heap.size, 0, none⟩), undef, .slice none 0 0, .pointer (some ⟨Bq0, 0, none⟩), sv, coV x.1, undef, undef, undef, undef, undef], defers := [] }
theorem AxC.own (w0 : World) (sv : Value) (B : Nat) (x : SC) (a' : Act) : OwnFrom B (fun (_ : Unit) W => AxC w0 sv x a' W) := by
  rintro _ X Y row ⟨Bq0, hb, ha⟩ hg hr
  refine ⟨Bq0, ?_, ha⟩
  refine (hg.block Bq0 (lt_of_block hb) fun e => ?_).trans hb
  obtain ⟨_, o, ho, hc⟩ := hr Bq0 e.symm
  rw [hb] at ho
  cases ho
  cases hc

set_option maxRecDepth 100000 in
set_option maxHeartbeats 4000000 in
theorem appendSeqC (n : Nat) (hn : 3 ≤ n) (Bm b lo : Nat) (ps : List (Co × Value)) (w : World) (hps : ps.length ≤ 1000) (hBm : Bm < w.heap.size) (hm : w.cell? ⟨Bm, 0, none⟩ = some (.map (some b))) (hP : Pu w lo b ps) :
    CallsIn Fence.wide n Tryz.prog 161 #[.slice none 0 0, .func (.func 142) #[] #[.pointer (some ⟨Bm, 0, none⟩)]] w fun e w' =>
      ∃ (v : Value) (ss : List SC), e = .returned v ∧ AllC ps ss ∧ w'.ownsRow w.heap.size 54 8 v ss.length (ss.flatMap cellsC) ∧ (v = .slice none 0 0 ↔ ss = []) ∧ Below w.heap.size w w' := by
  have h1 : 1 ≤ n := by omega
  obtain ⟨i0, hi, hz0, hz1, hz2⟩ := info_parts Tryz.infoCoin
  refine callsIn_of_wp_marks Tryz.func161 rfl trivial ?_ rfl
  simp only [Tryz.ntmps161, List.size_toArray, List.length_cons, List.length_nil, Nat.reduceAdd, Nat.reduceSub, Array.replicate_succ, Array.replicate_zero, List.push_toArray, List.append_toArray, List.nil_append, List.cons_append]
  gi_wp2
  have bO := Boxed.new w 28 (.slice none 0 0)
  have hB0 : Below w.heap.size w (w.alloc (.cells #[.slice none 0 0] 28)) := below_box _
  refine wpIn_rangeFunc_ownH rfl h1 (gf := 142) (lb := #[.pointer (some ⟨Bm, 0, none⟩)]) rfl trivial (enters_of Tryz.func142 (by kernel_rfl) rfl)
    (valuesC_stops (n - 1) (by omega) Bm b lo ps (w.alloc (.cells #[.slice none 0 0] 28)) (by simp; omega) ((hB0.cell (p := ⟨Bm, 0, none⟩) hBm).trans hm) (hP.below hB0)) walksK_t walksK_b (Below.refl _ _) (fun _ => rfl)
    (fun pre W => (∃ v, Boxed W w.heap.size 28 v ∧ W.ownsRow w.heap.size 54 8 v pre.length (pre.flatMap cellsC) ∧ (v = .slice none 0 0 ↔ pre = [])) ∧ Below w.heap.size w W)
    (fun _ _ _ => False)
    (OwnFrom.and (Own.from (holdsRow_own w.heap.size w.heap.size 28 54 8 (fun pre : List SC => pre.length) (fun pre => pre.flatMap cellsC) (fun pre v => v = .slice none 0 0 ↔ pre = [])) _) (ownFrom_below (Nat.le_refl _) (by simp)))
    (fun _ _ _ _ _ hs _ _ => hs)
    ⟨⟨_, bO, World.ownsRow_nil _ _ _ _, by simp⟩, hB0⟩
    (AxC w (.func (.func 142) #[] #[.pointer (some ⟨Bm, 0, none⟩)])) (AxC.own _ _ _) ?assign ?body ?done ?stop
  case assign =>
    rintro l pre ⟨⟨zc, zu⟩, za, zn, zp, hzu⟩ W K ⟨⟨v, hv, hrow, hnil⟩, hB⟩ hK
    simp only at hzu
    subst hzu
    dsimp only [encsC, coV] at *
    gi_wp2
    exact hK _ _ ((KeepsOthers.alloc _ _).from _) (KeepsWalks.alloc _ _) ⟨⟨v, hv.alloc _, hrow.alloc _, hnil⟩, hB.alloc hB.size _⟩ ⟨W.heap.size, heap_alloc_new _ _, rfl⟩
  case body =>
    rintro l pre ⟨⟨zc, zu⟩, za, zn, zp, hzu⟩ a' W hl hr ⟨⟨v, hv, hrow, hnil⟩, hB⟩ ⟨Bq0, hBk, rfl⟩ hlt
    simp only at hzu
    subst hzu
    dsimp only [coV] at hBk ⊢
    have hc := hv.cell
    obtain ⟨⟨s0, s1, s2, s3, s4, s5, s6, s7⟩, _⟩ := cells8 hBk
    gi_wp2_with (gi_at_builtin; refine wpListIn_append_own _ rfl _ _ 28 rfl w.heap.size 54 i0 (.agg #[.int .i64 0, .int .i64 0, .int .i64 0, .slice none 0 0, .int .i64 0, .int .i64 0, .int .i64 0, .bool false]) 8 80 Tryz.underlying28 hi hz0 hz1 hz2 rfl (by decide) _ _ _ rfl (hrow.alloc _) ⟨W.heap.size, 0, none⟩ 1 1 [.int .i64 zc.p, .int .i64 zc.q, .int .i64 zc.v, .slice za zn zp, .int .i64 zc.x, .int .i64 zc.y, .int .i64 zc.h, .bool zc.m] rfl rfl (World.news_of_block (heap_alloc_new _ _)) (by simp [Value.oneCell']) (by unfold maxLen; omega) (by omega) (by have := hB.size; simp; omega) ?_; intro v' w1 hown' hgrow _; obtain ⟨g', cap', rfl⟩ := ownsRow_succ hown'; obtain ⟨hv1, hv2, hr2, hk2, hb2⟩ := hv.appended (by decide) hrow hB.size (Nat.le_refl _) hown' hgrow; have hc1 := hv1.cell; have hf1 := hv1.frozen)
    exact ⟨hk2.from _, walks_of_others hk2, ⟨⟨_, hv2, by simpa [cellsC] using hr2, by simp⟩, hB.trans hb2⟩⟩
  case done =>
    rintro D ys W hD hS ⟨⟨v, hv, hrow, hnil⟩, hB⟩ hK
    have hc := hv.cell
    gi_wp2
    refine ⟨by simp, .inl ⟨_, _, rfl, run_takeDeferred hK, ?_⟩⟩
    exact ⟨_, results_tmp rfl _ _ _, v, ys, rfl, hS, ownsRow_putObj hrow _ hK rfl, hnil, hB.trans (belowK_b (w := w) (Nat.le_refl _) W D _ _ (by simp at hD; omega) hK rfl rfl)⟩
  case stop =>
    rintro D c pre W _ _ h _
    exact h.elim

set_option maxHeartbeats 1000000 in
theorem collectC (Bm b lo : Nat) (ps : List (Co × Value)) (w : World) (hps : ps.length ≤ 1000) (hBm : Bm < w.heap.size) (hm : w.cell? ⟨Bm, 0, none⟩ = some (.map (some b))) (hP : Pu w lo b ps) :
    Calls Tryz.prog 140 #[.func (.func 142) #[] #[.pointer (some ⟨Bm, 0, none⟩)]] w fun e w' =>
      ∃ (v : Value) (ss : List SC), e = .returned v ∧ AllC ps ss ∧ w'.ownsRow w.heap.size 54 8 v ss.length (ss.flatMap cellsC) ∧ (v = .slice none 0 0 ↔ ss = []) ∧ Below w.heap.size w w' := by
  have hA := (callsIn_wide (n := 3)).2 (callsIn_wide.1 (appendSeqC 3 (by omega) Bm b lo ps w hps hBm hm hP))
  have hA' := callsIn_wide.1 hA
  clear hA
  go_enter Tryz.func140, Tryz.ntmps140
  go_wp2_with (go_at_call 161; (with_reducible refine hA'.mono ?_); clear hA'; rintro e w' ⟨v, ss, rfl, hS, hrow, hnil, hb⟩)
  go_ret
  exact ⟨v, ss, rfl, hS, hrow, hnil, hb⟩

end Go.Proofs.YtagokfoimokniaaGreatDoor

namespace Go.Proofs.YtagokfoimokniaaGreatDoor
open Go.RowKit Go.Maps Go.WideMaps

def txIn (ps : List (Co × Value)) (t : Int) : Bool := ps.any fun x => decide (x.1.p = t)
/-- None of those that have come is of the transaction. -/
def NotYet (ps : List (Co × Value)) (t : Int) (left : Lit → Bool) : Prop := ∀ x ∈ ps, ∀ kl, keyOf Tryz.prog 47 (encR (refOf x)) = some kl → left kl = false → x.1.p ≠ t
theorem notYet_start {D : DataW Value} {ps : List (Co × Value)} (h : Told D ps) (t : Int) : NotYet ps t (fun kl => Maps.has D kl) := fun x hx kl hk hl => by
  have := h.look (refOf x) kl hk
  rw [find_mem h.refs hx] at this
  have hl' : Maps.has D kl = false := hl
  rw [this.1] at hl'
  cases hl'
theorem notYet_step {ps : List (Co × Value)} {t : Int} {left : Lit → Bool} (h : NotYet ps t left) (hrefs : ps.Pairwise fun x y => refOf x ≠ refOf y) {z : Co × Value} {kl : Lit} (hz : z ∈ ps) (hk : keyOf Tryz.prog 47 (encR (refOf z)) = some kl) (hne : z.1.p ≠ t) : NotYet ps t (fun s => left s && !s.sameKey kl) := fun x hx kl' hk' hl => by
  by_cases e : x = z
  · rw [e]; exact hne
  · have hne2 : kl' ≠ kl := fun e2 => e (refs_inj hrefs x hx z hz (encR_inj (kR.inj hk' (by rw [e2]; exact hk))))
    refine h x hx kl' hk' ?_
    have h2 : (left kl' && !kl'.sameKey kl) = false := hl
    rw [sameKey_ne hne2] at h2
    simpa using h2
theorem notYet_end {ps : List (Co × Value)} {t : Int} {left : Lit → Bool} (h : NotYet ps t left) (hw : ∀ x ∈ ps, (Lit.int .i64 x.1.p).wf = true ∧ (Lit.int .i64 x.1.q).wf = true) (hl : ∀ kl, left kl = false) : txIn ps t = false := by
  unfold txIn
  rw [List.any_eq_false]
  intro x hx
  obtain ⟨kl, hk⟩ := keyRf (r := refOf x) (hw x hx).1 (hw x hx).2
  simpa using h x hx kl hk (hl kl)
theorem txIn_true {ps : List (Co × Value)} {z : Co × Value} {t : Int} (hz : z ∈ ps) (e : z.1.p = t) : txIn ps t = true := by
  unfold txIn
  rw [List.any_eq_true]
  exact ⟨z, hz, by simpa using e⟩

set_option maxRecDepth 100000 in
set_option maxHeartbeats 2000000 in
theorem hasTx_any (B lo : Nat) (t : Int) (ps : List (Co × Value)) (w : World) (hP : Pu w lo B ps) :
    Calls Tryz.prog 92 #[.map (some B), .int .i64 t] w fun e w' => e = .returned (.bool (txIn ps t)) ∧ Below w.heap.size w w' := by
  obtain ⟨D, hown, hsz, hat0⟩ := hP.map
  have hT : Told D ps := ⟨hsz, hat0, hP.refs, hP.wfs, fun x hx => by
    rcases (hP.rows x hx).2 with ⟨e1, _⟩ | ⟨g, cp, cur, e1, _⟩
    · exact ⟨none, 0, 0, e1⟩
    · exact ⟨_, _, _, e1⟩⟩
  have HT : Hid (Told D ps) := hT
  clear hP hsz hat0 hT
  go_enter Tryz.func92, Tryz.ntmps92
  go_wp2_with (first
    | (at_range; refine wpList_range_own _ rfl _ 75 rfl 47 54 kR Tryz.underlying75 _ B ps.length _ rfl hown ?_; intro w0 hrg0 hg0 hs0))
  go_frame
  go_loopw [5] (fun _ wr => ∃ (left : Lit → Bool) (cnt : Nat), wr.ranges Tryz.prog 47 Rv B w.heap.size ps.length D left cnt ∧ Hid (NotYet ps t left) ∧ Hid (Below w.heap.size w wr)) (fun _ wr => wr.rangeLeft B w.heap.size)
  case atStart => exact ⟨_, _, hrg0, notYet_start HT.out t, (Below.refl _ w).grown hg0 (Nat.le_refl _) (fun k e => by cases e)⟩
  case round =>
    obtain ⟨left, cnt, hrg, HN, HB⟩ := hrel
    go_wp2_with (first
      | (at_next; refine wpList_next_ranges _ rfl _ rfl 47 kR Rv id id (fun key kl hk => ⟨key, rfl⟩) (fun v _ _ => ⟨v, rfl⟩) B w.heap.size ps.length _ _ _ rfl hrg ?_ ?_))
    · intro hc0 hl0
      go_wp2
      go_ret
      exact ⟨by rw [notYet_end HN.out HT.out.wfs hl0]; rfl, HB.out⟩
    · intro x c kl yd yp w2 cnt2 hkey hlk hv hat hrg2 hlt hg2 hs2 hen
      obtain rfl : yd = .held c := (Prod.mk.inj (show (DataW.held c, ([] : List MemPlace)) = (yd, yp) from Option.some.inj hv)).1.symm
      obtain ⟨z, hz, rfl, rfl, _, _⟩ := come_which HT.out (show keyOf Tryz.prog 47 x = some kl from hkey) hat
      have hkz : keyOf Tryz.prog 47 (encR (refOf z.1)) = some kl := hkey
      have hB2 : Below w.heap.size w w2 := HB.out.grown hg2 HB.out.size (fun k e => by cases e; exact Nat.le_refl _)
      have HB3 : Hid (Below w.heap.size w (w2.alloc (.cells #[.int .i64 z.1.1.p, .int .i64 z.1.1.q] 47))) := hB2.trans ((below_box _).mono hB2.size)
      have hrg3 := hrg2.of_walks (KeepsWalks.alloc w2 (.cells #[.int .i64 z.1.1.p, .int .i64 z.1.1.q] 47))
      dsimp only [coV, encR, refOf, id] at hen ⊢
      clear hs2 hB2 hkey hat hv
      by_cases hzt : z.1.1.p = t
      · have HX : Hid (txIn ps t = true) := txIn_true hz hzt
        clear hrg hrg2 hrg3 hz hkz
        go_wp2
        go_ret
        exact ⟨by rw [HX.out]; rfl, by have := HB3.out; rwa [hzt] at this⟩
      · have HS : Hid (NotYet ps t (fun s => left s && !s.sameKey kl)) := notYet_step HN.out HT.out.refs hz hkz hzt
        have HR3 : Hid ((w2.alloc (.cells #[.int .i64 z.1.1.p, .int .i64 z.1.1.q] 47)).ranges Tryz.prog 47 Rv B w.heap.size ps.length D (fun s => left s && !s.sameKey kl) cnt2) := hrg3
        have HR0 : Hid (wr.ranges Tryz.prog 47 Rv B w.heap.size ps.length D left cnt) := hrg
        clear hrg2 hrg3 hrg hz hkz
        go_wp2
        go_roundw
        case rel => exact ⟨_, cnt2, HR3.out, HS.out, HB3.out⟩
        case measure => rw [HR3.out.left_eq, HR0.out.left_eq]; exact hlt

end Go.Proofs.YtagokfoimokniaaGreatDoor

namespace Go.Proofs.YtagokfoimokniaaGreatDoor
open Go.RowKit Go.Maps Go.WideMaps

def putFR (t : Int) (os : List Ou) (h : Int) : Int := if inB t 1 60 = false ∨ inB h 0 999 = false then 3 else if 4 < os.length then 2 else outsR os

set_option maxHeartbeats 1000000 in
theorem putFault_any (t h : Int) (m d : Nat) (oa : Option Addr) (os : List Ou) (w : World) (hm : m ≤ 1048576) (hk : ∀ j, j < m → (os.getD j O0).l.length ≤ 1048576) (hO : OAt w oa m os) :
    Calls Tryz.prog 139 #[.int .i64 t, .slice oa m d, .int .i64 h] w fun e w' => e = .returned (.int .i64 (putFR t os h)) ∧ Below w.heap.size w w' := by
  have hof := outsFault_any m d oa os w hm hk hO
  have HL : Hid (os.length = m) := hO.1
  obtain ⟨kt, hkt⟩ : ∃ k, k = inB t 1 60 := ⟨_, rfl⟩
  obtain ⟨kh, hkh⟩ : ∃ k, k = inB h 0 999 := ⟨_, rfl⟩
  have h1 : ∀ u, Calls Tryz.prog 150 #[.int .i64 t] u fun e w' => e = .returned (.bool kt) ∧ w' = u := fun u => by rw [hkt]; exact isTxId_any _ u
  have h2 : ∀ u, Calls Tryz.prog 39 #[.int .i64 h] u fun e w' => e = .returned (.bool kh) ∧ w' = u := fun u => by rw [hkh]; exact isHeight_any _ u
  have hr : putFR t os h = if kt = false ∨ kh = false then 3 else if 4 < m then 2 else outsR os := by unfold putFR; rw [hkt, hkh, hO.1]
  rw [hr]
  obtain ⟨ro, hro⟩ : ∃ r, r = outsR os := ⟨_, rfl⟩
  rw [← hro] at hof ⊢
  clear hr hkt hkh hk hO hro
  cases kt with
  | false =>
    rw [if_pos (.inl rfl)]
    go_enter Tryz.func139, Tryz.ntmps139
    go_wp2_with (go_at_call 150; (with_reducible refine (h1 _).mono ?_); clear h1; rintro e w' ⟨rfl, hw⟩; have hw2 := hw.symm; subst hw2)
    go_ret
    exact ⟨rfl, Below.refl _ _⟩
  | true =>
    cases kh with
    | false =>
      rw [if_pos (.inr rfl)]
      go_enter Tryz.func139, Tryz.ntmps139
      go_wp2_with (first
        | (go_at_call 150; (with_reducible refine (h1 _).mono ?_); clear h1; rintro e w' ⟨rfl, hw⟩; have hw2 := hw.symm; subst hw2)
        | (go_at_call 39; (with_reducible refine (h2 _).mono ?_); clear h2; rintro e w' ⟨rfl, hw⟩; have hw2 := hw.symm; subst hw2))
      go_ret
      exact ⟨rfl, Below.refl _ _⟩
    | true =>
      rw [if_neg (by simp)]
      by_cases h4 : 4 < m
      · rw [if_pos h4]
        have h4i : (4 : Int) < (m : Int) := by omega
        go_enter Tryz.func139, Tryz.ntmps139
        go_wp2_with (first
          | (go_at_call 150; (with_reducible refine (h1 _).mono ?_); clear h1; rintro e w' ⟨rfl, hw⟩; have hw2 := hw.symm; subst hw2)
          | (go_at_call 39; (with_reducible refine (h2 _).mono ?_); clear h2; rintro e w' ⟨rfl, hw⟩; have hw2 := hw.symm; subst hw2))
        go_ret
        exact ⟨rfl, Below.refl _ _⟩
      · rw [if_neg h4]
        have h4i : ¬ (4 : Int) < (m : Int) := by omega
        go_enter Tryz.func139, Tryz.ntmps139
        go_wp2_with (first
          | (go_at_call 150; (with_reducible refine (h1 _).mono ?_); clear h1; rintro e w' ⟨rfl, hw⟩; have hw2 := hw.symm; subst hw2)
          | (go_at_call 39; (with_reducible refine (h2 _).mono ?_); clear h2; rintro e w' ⟨rfl, hw⟩; have hw2 := hw.symm; subst hw2)
          | (go_at_call 77; (with_reducible refine hof.mono ?_); clear hof; rintro e w' ⟨rfl, hb⟩))
        go_ret
        exact ⟨rfl, hb⟩

/-- The coins that a transaction's outs make. -/
def newC (t h : Int) (m : Bool) (o : Ou) (j : Nat) : Co := ⟨t, j, o.v, o.l, o.x, o.y, h, m⟩
def newCs (t h : Int) (m : Bool) (os : List Ou) (k : Nat) : List Co := (List.range k).map fun j => newC t h m (os.getD j O0) j
theorem newCs_succ (t h : Int) (m : Bool) (os : List Ou) (k : Nat) : newCs t h m os (k + 1) = newCs t h m os k ++ [newC t h m (os.getD k O0) k] := by
  unfold newCs
  rw [List.range_succ, List.map_append]
  rfl
theorem outs_more : ∀ {os : List Ou}, outsR os = 0 → ∀ o ∈ os, 1 ≤ o.l.length ∧ o.l.length ≤ 3
  | [], _, o, ho => by cases ho
  | x :: t, h, o, ho => by
    unfold outsR at h
    by_cases h1 : inB x.v 1 1000000 = false
    · rw [if_pos h1] at h; cases h
    · rw [if_neg h1] at h
      by_cases h2 : ruleR x.l x.x x.y ≠ 0
      · rw [if_pos h2] at h; exact absurd h h2
      · rw [if_neg h2] at h
        rcases List.mem_cons.1 ho with rfl | ho
        · have h3 : ruleR o.l o.x o.y = 0 := Classical.not_not.1 h2
          unfold ruleR at h3
          by_cases h4 : inB o.l.length 1 3 = false
          · rw [if_pos h4] at h3; cases h3
          · have h5 : inB o.l.length 1 3 = true := by cases e : inB o.l.length 1 3; exact absurd e h4; rfl
            simp [inB] at h5
            omega
        · exact outs_more h o ho
theorem find_new {ps ps0 : List (Co × Value)} {t h : Int} {m : Bool} {os : List Ou} {k : Nat} (hp : ps.map (·.1) = ps0.map (·.1) ++ newCs t h m os k) (hno : txIn ps0 t = false) : findP ps (t, (k : Int)) = none := by
  unfold findP
  rw [List.find?_eq_none]
  intro x hx
  have h1 : x.1 ∈ ps0.map (·.1) ++ newCs t h m os k := by rw [← hp]; exact List.mem_map.2 ⟨x, hx, rfl⟩
  rcases List.mem_append.1 h1 with h1 | h1
  · obtain ⟨y, hy, e⟩ := List.mem_map.1 h1
    unfold txIn at hno
    rw [List.any_eq_false] at hno
    have := hno y hy
    simp [refOf]
    intro e2
    rw [← e] at e2
    exact absurd e2 (by simpa using this)
  · unfold newCs at h1
    obtain ⟨j, hj, e⟩ := List.mem_map.1 h1
    have hj' := List.mem_range.1 hj
    simp [refOf, ← e, newC]
    omega

end Go.Proofs.YtagokfoimokniaaGreatDoor

namespace Go.Proofs.YtagokfoimokniaaGreatDoor
open Go.RowKit Go.Maps Go.WideMaps

theorem chg_cell {w wr : World} {B : Nat} (h : Chg w wr B (B + 1)) {es : Array MapEntry} {clock : Nat} (hm : w.heap[B]? = some (.map es clock)) {a : Addr} {v : Value} (hc : w.cell? a = some v) : wr.cell? a = some v := by
  have hb : a.block ≠ B := fun e => by
    unfold World.cell? at hc
    rw [e, hm] at hc
    simp at hc
  have hl := World.block_lt_of_cell? _ _ hc
  exact (World.cell?_of_block (h.block a.block hl (by omega))).trans hc
theorem chg_ints {w wr : World} {B : Nat} (h : Chg w wr B (B + 1)) {es : Array MapEntry} {clock : Nat} (hm : w.heap[B]? = some (.map es clock)) {a : Option Addr} {n : Nat} {l : List Int} (hI : IAt w a n l) : IAt wr a n l := by
  refine ⟨hI.1, ?_⟩
  rcases hI.2 with h0 | ⟨b, off, e, hl, hc⟩
  · exact .inl h0
  · exact .inr ⟨b, off, e, Nat.lt_of_lt_of_le hl h.size, fun j hj => chg_cell h hm (hc j hj)⟩

def putsR (n : Nat) (ti : Bool) (t : Int) (os : List Ou) (h : Int) : Int := if putFR t os h ≠ 0 then putFR t os h else if ti = true then 7 else if 40 < n + os.length then 2 else 0

/-- What putOuts comes to. -/
def PutO (w w' : World) (e : Ending) (lo B : Nat) (ps : List (Co × Value)) (t h : Int) (m : Bool) (os : List Ou) : Prop :=
  e = .returned (.int .i64 (putsR ps.length (txIn ps t) t os h)) ∧ Chg w w' B (B + 1) ∧ (putsR ps.length (txIn ps t) t os h = 0 → ∃ ps', Pu w' lo B ps' ∧ ps'.map (·.1) = ps.map (·.1) ++ newCs t h m os os.length) ∧ (putsR ps.length (txIn ps t) t os h ≠ 0 → Below w.heap.size w w')

set_option maxRecDepth 20000 in
set_option maxHeartbeats 4000000 in
theorem putOuts_any (B lo : Nat) (t h : Int) (m : Bool) (n d : Nat) (oa : Option Addr) (os : List Ou) (ps : List (Co × Value)) (w : World) (hP : Pu w lo B ps) (hlo : lo ≤ w.heap.size) (hps : ps.length ≤ 40) (hn : n ≤ 1048576) (hk : ∀ j, j < n → (os.getD j O0).l.length ≤ 1048576) (hO : OAt w oa n os) :
    Calls Tryz.prog 94 #[.map (some B), .int .i64 t, .slice oa n d, .int .i64 h, .bool m] w fun e w' => PutO w w' e lo B ps t h m os := by
  have hF := putFault_any t h n d oa os w hn hk hO
  have HP : Hid (Pu w lo B ps) := hP
  have HO : Hid (OAt w oa n os) := hO
  have HL : Hid (os.length = n) := hO.1
  obtain ⟨f, hf⟩ : ∃ f, f = putFR t os h := ⟨_, rfl⟩
  obtain ⟨ti, hti⟩ : ∃ b, b = txIn ps t := ⟨_, rfl⟩
  have HF : Hid (putFR t os h = f) := hf.symm
  have HTI : Hid (txIn ps t = ti) := hti.symm
  rw [← hf] at hF
  have hH : ∀ W, Below w.heap.size w W → Calls Tryz.prog 92 #[.map (some B), .int .i64 t] W fun e w' => e = .returned (.bool ti) ∧ Below W.heap.size W w' := fun W hW => by rw [hti]; exact hasTx_any B lo t ps W (HP.out.below hW)
  clear hP hk hO
  by_cases hf0 : f = 0
  · subst hf0
    clear hf hti
    have ht60 : (1 ≤ t ∧ t ≤ 60) ∧ n ≤ 4 ∧ outsR os = 0 := by
      have h1 := HF.out
      unfold putFR at h1
      by_cases q1 : inB t 1 60 = false ∨ inB h 0 999 = false
      · rw [if_pos q1] at h1; cases h1
      · rw [if_neg q1] at h1
        have q2 : inB t 1 60 = true := by cases e : inB t 1 60; exact absurd (.inl e) q1; rfl
        by_cases q3 : 4 < os.length
        · rw [if_pos q3] at h1; cases h1
        · rw [if_neg q3] at h1
          rw [HL.out] at q3
          simp [inB] at q2
          exact ⟨q2, by omega, h1⟩
    obtain ⟨ht, hn4, hou⟩ := ht60
    have HOU : Hid (∀ o ∈ os, 1 ≤ o.l.length ∧ o.l.length ≤ 3) := outs_more hou
    clear hou
    cases ti with
    | true =>
      have HR : Hid (putsR ps.length (txIn ps t) t os h = 7) := by show putsR _ _ _ _ _ = 7; unfold putsR; rw [HF.out, HTI.out]; rfl
      go_enter Tryz.func94, Tryz.ntmps94
      go_wp2_with (first
        | (go_at_call 139; (with_reducible refine hF.mono ?_); clear hF; rintro e w2 ⟨rfl, hb2⟩; have HB2 : Hid (Below w.heap.size w w2) := hb2; have hh := hH w2 hb2; clear hH hb2)
        | (go_at_call 92; (with_reducible refine hh.mono ?_); clear hh; rintro e w3 ⟨rfl, hb3⟩))
      go_ret
      exact ⟨by rw [HR.out]; rfl, Chg.of_below (HB2.out.trans (hb3.mono HB2.out.size)) _ _, (fun e => by rw [HR.out] at e; cases e), fun _ => HB2.out.trans (hb3.mono HB2.out.size)⟩
    | false =>
      by_cases h40 : 40 < ps.length + n
      · have HR : Hid (putsR ps.length (txIn ps t) t os h = 2) := by show putsR _ _ _ _ _ = 2; unfold putsR; rw [HF.out, HTI.out, HL.out, if_neg (by simp), if_neg (by simp), if_pos h40]
        have h40i : (40 : Int) < (ps.length : Int) + (n : Int) := by omega
        have hwr : IntKind.i64.wrap ((ps.length : Int) + (n : Int)) = (ps.length : Int) + (n : Int) := IntWalk.i64_in _ (by omega)
        go_enter Tryz.func94, Tryz.ntmps94
        go_wp2_with (first
          | (go_at_call 139; (with_reducible refine hF.mono ?_); clear hF; rintro e w2 ⟨rfl, hb2⟩; have HB2 : Hid (Below w.heap.size w w2) := hb2; have hh := hH w2 hb2; clear hH hb2)
          | (go_at_call 92; (with_reducible refine hh.mono ?_); clear hh; rintro e w3 ⟨rfl, hb3⟩; have HB3 : Hid (Below w.heap.size w w3) := HB2.out.trans (hb3.mono HB2.out.size); have hlen := (HP.out.below HB3.out).len; clear hb3))
        go_ret
        exact ⟨by rw [HR.out]; rfl, Chg.of_below HB3.out _ _, (fun e => by rw [HR.out] at e; cases e), fun _ => HB3.out⟩
      · have HR : Hid (putsR ps.length (txIn ps t) t os h = 0) := by show putsR _ _ _ _ _ = 0; unfold putsR; rw [HF.out, HTI.out, HL.out, if_neg (by simp), if_neg (by simp), if_neg h40]
        have h40i : ¬ (40 : Int) < (ps.length : Int) + (n : Int) := by omega
        have hwr : IntKind.i64.wrap ((ps.length : Int) + (n : Int)) = (ps.length : Int) + (n : Int) := IntWalk.i64_in _ (by omega)
        go_enter Tryz.func94, Tryz.ntmps94
        go_wp2_with (first
          | (go_at_call 139; (with_reducible refine hF.mono ?_); clear hF; rintro e w2 ⟨rfl, hb2⟩; have HB2 : Hid (Below w.heap.size w w2) := hb2; have hh := hH w2 hb2; clear hH hb2)
          | (go_at_call 92; (with_reducible refine hh.mono ?_); clear hh; rintro e w3 ⟨rfl, hb3⟩; have HB3 : Hid (Below w.heap.size w w3) := HB2.out.trans (hb3.mono HB2.out.size); have hlen := (HP.out.below HB3.out).len; clear hb3))
        go_loopw [32] (fun i wr => ∃ j : Nat, j ≤ n ∧ i = .int .i64 j ∧ Hid (Chg w wr B (B + 1)) ∧ Hid (∃ ps', Pu wr lo B ps' ∧ ps'.map (·.1) = ps.map (·.1) ++ newCs t h m os j)) (fun i _ => n - (intOf i).toNat)
        case atStart => exact ⟨0, Nat.zero_le _, rfl, Chg.of_below HB3.out _ _, ps, HP.out.below HB3.out, by simp [newCs]⟩
        case round =>
          obtain ⟨j, hj, rfl, HC, HM⟩ := hrel
          by_cases hlt : j < n
          · rcases HO.out.2 with h0 | ⟨b, off, e0, l0, d0⟩
            · omega
            subst e0
            obtain ⟨ps', hPu, hps'⟩ := HM.out
            obtain ⟨o, ho⟩ : ∃ o, o = os.getD j O0 := ⟨_, rfl⟩
            obtain ⟨ka, kn, kc, x0, x1, x2, x3, hkn, hI⟩ := d0 j hlt
            rw [← ho] at x0 x2 x3 hI
            have hmem : o ∈ os := by rw [ho, List.getD, List.getElem?_eq_getElem (by rw [HL.out]; exact hlt)]; exact List.getElem_mem _
            obtain ⟨g1, g2⟩ := HOU.out o hmem
            have hfn := find_new hps' HTI.out
            have HNX : Hid (newCs t h m os (j + 1) = newCs t h m os j ++ [newC t h m o j]) := by show _ = _; rw [newCs_succ, ho]
            have hpl : ps'.length = ps.length + j := by
              have := congrArg List.length hps'
              simpa [newCs] using this
            obtain ⟨ov, ol, ox, oy⟩ := o
            simp only at x0 x2 x3 hI g1 g2
            obtain rfl := hI.1
            rcases hI.2 with h0 | ⟨kb, ko, ek, hkl, _⟩
            · omega
            subst ek
            have hBl := HP.out.lt
            have hBB := HP.out.base
            have hsz := HC.out.size
            obtain ⟨D, hown, _⟩ := HP.out.map
            obtain ⟨es, clock, hmB, _⟩ := hown
            have z0 := chg_cell HC.out hmB x0
            have z1 := chg_cell HC.out hmB x1
            have z2 := chg_cell HC.out hmB x2
            have z3 := chg_cell HC.out hmB x3
            have hbx : Below wr.heap.size wr (wr.alloc (.cells #[.int .i64 ov, .slice (some ⟨kb, ko, none⟩) ol.length kc, .int .i64 ox, .int .i64 oy] 52)) := below_box _
            have hput := put_any B lo kb ko kc ps' t (j : Int) ov ol ox oy h m (wr.alloc (.cells #[.int .i64 ov, .slice (some ⟨kb, ko, none⟩) ol.length kc, .int .i64 ox, .int .i64 oy] 52)) (hPu.below hbx) (Nat.le_trans (Nat.le_trans hlo hsz) hbx.size) (by omega) ((chg_ints HC.out hmB hI).below hbx (Nat.le_refl _)) (WalkArith.wf_i64 (by omega)) (WalkArith.wf_i64 (by omega)) hfn (by omega)
            have HPS : Hid (ps'.map (·.1) = ps.map (·.1) ++ newCs t h m os j) := hps'
            have HCX : Hid (Chg w (wr.alloc (.cells #[.int .i64 ov, .slice (some ⟨kb, ko, none⟩) ol.length kc, .int .i64 ox, .int .i64 oy] 52)) B (B + 1)) := HC.out.trans (Chg.of_below hbx _ _)
            have hki : (j : Int) < (n : Int) := by omega
            clear ho d0 x0 x1 x2 x3 hI hmem g1 g2 hfn hPu hps' hbx hmB hlen
            go_wp2_with (first
              | (go_at_call 78; (with_reducible refine hput.mono ?_); clear hput; rintro e w4 ⟨rfl, HPU, hch⟩; have HC4 : Hid (Chg w w4 B (B + 1)) := HCX.out.trans hch; clear hch))
            go_roundw
            case rel =>
              obtain ⟨u, hu⟩ := HPU.out
              exact ⟨j + 1, by omega, by go_num, HC4.out, _, hu, by rw [List.map_append, HPS.out, HNX.out, List.append_assoc]; rfl⟩
            case measure => simp [intOf]; omega
          · have hjn : j = n := by omega
            subst hjn
            clear hlen
            go_wp2
            go_ret
            exact ⟨by rw [HR.out]; rfl, HC.out, (fun _ => by rw [HL.out]; exact HM.out), fun e => absurd HR.out e⟩
  · have HR : Hid (putsR ps.length (txIn ps t) t os h = f) := by show putsR _ _ _ _ _ = f; unfold putsR; rw [HF.out, if_pos hf0]
    clear hf hti hH
    go_enter Tryz.func94, Tryz.ntmps94
    go_wp2_with (first
      | (go_at_call 139; (with_reducible refine hF.mono ?_); clear hF; rintro e w2 ⟨rfl, hb2⟩))
    go_ret
    exact ⟨by rw [HR.out]; rfl, Chg.of_below hb2 _ _, (fun e => by rw [HR.out] at e; exact absurd e hf0), fun _ => hb2⟩

end Go.Proofs.YtagokfoimokniaaGreatDoor
