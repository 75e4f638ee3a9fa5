/- The program's eachSigner tells those keys of a rule that signed. -/
import Derived.Test.YtagokfoimokniaaGreatDoorJn5
import Derived.Test.YtagokfoimokniaaGreatDoorHasSign
namespace Go.Proofs.YtagokfoimokniaaGreatDoor
open Go.RowKit Go.Shelf Go.Maps Go.WideMaps
attribute [local go_sem] Oper.semAt_some

theorem cell_lt {V : World} {a : Addr} {v : Value} (h : V.cell? a = some v) : a.block < V.heap.size := by
  unfold World.cell? at h
  cases hx : V.heap[a.block]? with
  | none => simp [hx] at h
  | some o => exact (Array.getElem?_eq_some_iff.1 hx).1

abbrev Wf : Type := { z : Int // (Lit.int .i64 z).wf = true }

set_option maxRecDepth 100000 in
set_option maxHeartbeats 2000000 in
theorem signers_tell (Br Bb Bi pg base n cap : Nat) (a : Option Addr) (zs : List Wf) (x y id : Int) (gs : List (Int × Int)) (pp : Option Addr) (w0 : World) (hn : n ≤ 1048576) (hI : IAt w0 a n (zs.map Subtype.val)) (hwi : (Lit.int .i64 id).wf = true)
    (hR : w0.heap[Br]? = some (.cells #[.slice a n cap, .int .i64 x, .int .i64 y] 50 (0, 0))) (hb : w0.heap[Bb]? = some (.cells #[.pointer pp, .pointer (some ⟨pg, 0, none⟩)] 71 (0, 0))) (hi : w0.heap[Bi]? = some (.cells #[.int .i64 id] 2 (0, 0))) (hT : TwG w0 base pg gs) :
    Tells 138 #[.pointer (some ⟨Br, 0, none⟩), .pointer (some ⟨Bb, 0, none⟩), .pointer (some ⟨Bi, 0, none⟩)] (fun x : Int => #[Value.int .i64 x]) w0.heap.size ((zs.map Subtype.val).filter fun k => memB gs (k, id)) w0 := by
  intro lp J W hbW hJ hY h0
  have HY := show Hid (∀ pre x W1, J pre W1 → pre.length < 1048576 → YieldAt Fence.wide 0 Tryz.prog lp #[Value.int .i64 x] W1 fun e W' => e = .returned (.bool true) ∧ J (pre ++ [x]) W' ∧ Below w0.heap.size W1 W' ∧ KeepsOthers W1 W' ∧ SameFrom W.heap.size W1 W') from hY
  have HJ : Hid (OwnFrom W.heap.size J) := hJ
  have HT : Hid (TwG w0 base pg gs) := hT
  have HBK : Hid (w0.heap[Bb]? = some (.cells #[.pointer pp, .pointer (some ⟨pg, 0, none⟩)] 71 (0, 0))) := hb
  have HID : Hid (w0.heap[Bi]? = some (.cells #[.int .i64 id] 2 (0, 0))) := hi
  have hR2 : W.heap[Br]? = some (.cells #[.slice a n cap, .int .i64 x, .int .i64 y] 50 (0, 0)) := (hbW.block Br (lt_of_block hR)).trans hR
  have hlR := lt_of_block hR2
  have hR3 : (W.alloc (.cells #[.func (.yield lp) #[] #[]] 84)).heap[Br]? = some (.cells #[.slice a n cap, .int .i64 x, .int .i64 y] 50 (0, 0)) := (Below.heap_alloc _ _ _ hlR).trans hR2
  obtain ⟨r0, r1, r2⟩ := cells3 hR3
  clear hY hT hb hi hJ
  refine (callsIn_wide (n := 3)).1 ?_
  show CallsIn Fence.wide 3 Tryz.prog 138 #[.func (.yield lp) #[] #[], .pointer (some ⟨Br, 0, none⟩), .pointer (some ⟨Bb, 0, none⟩), .pointer (some ⟨Bi, 0, none⟩)] W _
  refine callsIn_of_wp_marks Tryz.func138 rfl trivial ?_ rfl
  simp only [Tryz.ntmps138, List.size_toArray, List.length_cons, List.length_nil, Nat.reduceAdd, Nat.reduceSub, Array.replicate_succ, Array.replicate_zero, List.push_toArray, List.append_toArray, List.nil_append, List.cons_append]
  gi_wp2_with (first | (refine ⟨trivial, ?_⟩; gi_at_call 136; refine (callsIn_wide.2 (eachKey_any _ _ _ _ _ _)).mono ?_; rintro e w' ⟨rfl, hw⟩; subst hw))
  have hsz : w0.heap.size ≤ W.heap.size := hbW.size
  have hbx : Below W.heap.size W ((W.alloc (.cells #[.func (.yield lp) #[] #[]] 84)).alloc (.cells #[.slice a n cap, .int .i64 x, .int .i64 y] 50)) := below_box2 _ _
  have hb0 : Below w0.heap.size w0 ((W.alloc (.cells #[.func (.yield lp) #[] #[]] 84)).alloc (.cells #[.slice a n cap, .int .i64 x, .int .i64 y] 50)) := hbW.trans (hbx.mono hsz)
  have hcY : ((W.alloc (.cells #[.func (.yield lp) #[] #[]] 84)).alloc (.cells #[.slice a n cap, .int .i64 x, .int .i64 y] 50)).cell? ⟨W.heap.size, 0, none⟩ = some (.func (.yield lp) #[] #[]) := by
    unfold World.cell?; rw [block_at2]; rfl
  have hcR : ((W.alloc (.cells #[.func (.yield lp) #[] #[]] 84)).alloc (.cells #[.slice a n cap, .int .i64 x, .int .i64 y] 50)).cell? ⟨W.heap.size + 1, 0, none⟩ = some (.slice a n cap) := by
    unfold World.cell?; rw [heap_alloc_at _ _ _ (by simp)]; rfl
  have hJ2 : J [] ((W.alloc (.cells #[.func (.yield lp) #[] #[]] 84)).alloc (.cells #[.slice a n cap, .int .i64 x, .int .i64 y] 50)) := HJ.out.alloc _ (HJ.out.alloc _ h0)
  clear r0 r1 r2 hR3 hR2 hR hlR hbx h0
  refine wpIn_rangeFunc_ownG rfl (by omega) (gf := 160) (lb := #[.pointer (some ⟨W.heap.size + 1, 0, none⟩)]) rfl trivial (enters_of Tryz.func160 (by kernel_rfl) rfl)
    (each_stops (fun z : Wf => z.1) Fence.wide (3 - 1) trivial rfl (by omega) (W.heap.size + 1) n cap a zs w0 _ hn hI hb0 (by simp) hcR) belowK_t (belowK_b (by simp; omega)) (Below.refl _ _) (fun _ => rfl)
    (fun pre V => (J ((pre.map Subtype.val).filter fun k => memB gs (k, id)) V ∧ V.cell? ⟨W.heap.size, 0, none⟩ = some (.func (.yield lp) #[] #[])) ∧ Below w0.heap.size w0 V)
    (fun _ _ _ => False)
    (OwnFrom.and (OwnFrom.and (fun s A B row hs hg hr => HJ.out _ A B row hs hg (fun r e => ⟨by have := (hr r e).1; simp at this; omega, (hr r e).2⟩)) (Own.from (fun s A B row hs hg hr => cell_kept hs hg hr) _)) (ownFrom_below (Nat.le_refl _) (by simp; omega)))
    (fun c => fun _ _ _ _ hs _ _ => hs)
    ⟨⟨hJ2, hcY⟩, hb0⟩
    (fun z => { tmps := #[.func (.yield lp) #[] #[], .pointer (some ⟨Br, 0, none⟩), .pointer (some ⟨Bb, 0, none⟩), .pointer (some ⟨Bi, 0, none⟩), .pointer (some ⟨W.heap.size, 0, none⟩), .int .i64 z.1, .agg #[.slice a n cap, .int .i64 x, .int .i64 y], .func (.func 160) #[] #[.pointer (some ⟨W.heap.size + 1, 0, none⟩)], .int .i64 z.1, undef, undef, undef, undef, undef, undef, undef, undef, undef, undef], defers := [] }) ?assign ?body ?done ?stop
  case assign =>
    intro l z V K hK
    gi_wp2
    exact hK
  case body =>
    rintro l pre ⟨z, hz⟩ V ⟨⟨hj, hyc⟩, hBB⟩ hlen
    have hB2 := (hBB.block Bb (lt_of_block HBK.out)).trans HBK.out
    have hI2 := (hBB.block Bi (lt_of_block HID.out)).trans HID.out
    obtain ⟨k0, k1⟩ := cells2 hB2
    have i0 : V.cell? ⟨Bi, 0, none⟩ = some (.int .i64 id) := by unfold World.cell?; rw [hI2]; rfl
    have hnum := bookHas_any pp pg base gs z id V hz hwi (HT.out.below hBB)
    obtain ⟨mb, hmb⟩ : ∃ c, c = memB gs (z, id) := ⟨_, rfl⟩
    rw [← hmb] at hnum
    have HJV : Hid (J ((pre.map Subtype.val).filter fun k => memB gs (k, id)) V) := hj
    have HL : Hid (((pre.map Subtype.val).filter fun k => memB gs (k, id)).length < 1048576) := by
      have h1 := List.length_filter_le (fun k => memB gs (k, id)) (pre.map Subtype.val)
      rw [List.length_map] at h1
      exact Nat.lt_of_le_of_lt h1 (by omega)
    have HZ : Hid (((pre ++ [(⟨z, hz⟩ : Wf)]).map Subtype.val).filter (fun k => memB gs (k, id)) = ((pre.map Subtype.val).filter fun k => memB gs (k, id)) ++ if mb = true then [z] else []) := by
      show _ = _
      rw [List.map_append, List.filter_append]
      congr 1
      simp only [List.map_cons, List.map_nil, List.filter_cons, List.filter_nil, ← hmb]
    clear hmb hj hB2 hI2
    cases mb
    · gi_wp2_with (first | (refine ⟨trivial, ?_⟩; gi_at_call 114; refine (CallsIn.inRound l (callsIn_wide.2 hnum)).mono ?_; rintro e V2 ⟨rfl, hb2⟩))
      refine ⟨fun f e => (by cases e), ?_⟩
      gi_wp2
      have hg2 := grown_of_below hb2
      have hy2 := (hb2.cell (p := ⟨W.heap.size, 0, none⟩) (cell_lt hyc)).trans hyc
      have hz2 : ((pre ++ [(⟨z, hz⟩ : Wf)]).map Subtype.val).filter (fun k => memB gs (k, id)) = ((pre.map Subtype.val).filter fun k => memB gs (k, id)) := by rw [← List.append_nil ((pre.map Subtype.val).filter fun k => memB gs (k, id))]; exact HZ.out
      refine ⟨KeepsFrom.of_grownBy hg2 (fun j e => by cases e), hb2.mono hBB.size, ⟨?_, hy2⟩, hBB.trans (hb2.mono hBB.size)⟩
      rw [hz2]
      exact HJ.out _ V V2 none HJV.out hg2 (fun r e => by cases e)
    · gi_wp2_with (first | (refine ⟨trivial, ?_⟩; gi_at_call 114; refine (CallsIn.inRound l (callsIn_wide.2 hnum)).mono ?_; rintro e V2 ⟨rfl, hb2⟩; have hg2 := grown_of_below hb2; have hy2 := (hb2.cell (p := ⟨W.heap.size, 0, none⟩) (cell_lt hyc)).trans hyc; obtain ⟨fn, tmps, assign, body, hy, hR⟩ := HY.out _ z V2 (HJ.out _ V V2 none HJV.out hg2 (fun r e => by cases e)) HL.out))
      have hR' : RoundIn (Fence.wide.inRound l) 0 Tryz.prog lp fn tmps assign body V2 _ := hR
      refine hR'.mono ?_
      rintro e V3 ⟨rfl, hj3, hb3, hk3, hs3⟩
      gi_wp2
      have hz2 : ((pre ++ [(⟨z, hz⟩ : Wf)]).map Subtype.val).filter (fun k => memB gs (k, id)) = ((pre.map Subtype.val).filter fun k => memB gs (k, id)) ++ [z] := HZ.out
      have hy3 : V3.cell? ⟨W.heap.size, 0, none⟩ = some (.func (.yield lp) #[] #[]) := by unfold World.cell? at hy2 ⊢; rw [hs3 W.heap.size (Nat.le_refl _) (cell_lt (a := ⟨W.heap.size, 0, none⟩) hy2)]; exact hy2
      refine ⟨(KeepsFrom.of_grownBy hg2 (fun j e => by cases e)).trans (hk3.from _), (hb2.mono hBB.size).trans hb3, ⟨?_, hy3⟩, (hBB.trans (hb2.mono hBB.size)).trans hb3⟩
      rw [hz2]
      exact hj3
  case done =>
    rintro D ys V hD rfl ⟨⟨hj, _⟩, hBB⟩ hK
    gi_wp2
    refine ⟨by simp, .inl ⟨_, _, rfl, run_takeDeferred hK, ?_⟩⟩
    refine ⟨_, results_none rfl _ _ _, ⟨_, rfl⟩, ?_⟩
    exact HJ.out _ V _ (some D) hj (grownBy_putObj' V D (.deferred none)) (fun r e => by cases e; exact ⟨by simp at hD; omega, _, hK, rfl⟩)
  case stop =>
    rintro D c pre V hD hpre h hK
    exact h.elim

end Go.Proofs.YtagokfoimokniaaGreatDoor
