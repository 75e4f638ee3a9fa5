/- The program's readRefs: each piece of a word is a ref, or the reading panics. -/
import Derived.Test.YtciefdphjkjikaaGreatDoorBc
import Derived.RangeFuncBox
import Derived.Maps.OwnIn
import Derived.Maps.AppendAt
import Derived.Shelf.RegionOpen
namespace Go.Proofs.YtciefdphjkjikaaGreatDoor
open Go.RowKit Go.Shelf Go.Maps Go.WideMaps
attribute [local go_sem] Oper.semAt_some

/-- What the gathering keeps. -/
def GathR (w : World) (pre : List (List UInt8)) (W : World) : Prop := (∃ va vn vc, ∃ rs : List (Int × Int), pre.map rref = rs.map some ∧ Boxed W w.heap.size 25 (.slice va vn vc) ∧ W.ownsRow w.heap.size 65 2 (.slice va vn vc) pre.length (gcells rs)) ∧ Below w.heap.size w W
theorem GathR.own {w : World} {p : Nat → Prop} (hp : ∀ r, p r → w.heap.size < r) : OwnBy p (GathR w) := by
  rintro s A C row ⟨⟨va, vn, vc, rs, hrs, hv, hrow⟩, hB⟩ hg hr
  refine ⟨⟨va, vn, vc, rs, hrs, hv.kept hg (fun e => ?_), hrow.kept hg ?_⟩, hB.grown hg hB.size (fun k e => Nat.le_of_lt (hp k (hr k e).1))⟩
  · have := hp _ (hr _ e.symm).1; omega
  · rcases hrow.2 with ⟨q0, _⟩ | ⟨g, cap, cur, q0, _, hgb, _⟩
    · rw [q0]; exact .inl rfl
    · rw [q0]
      refine .inr fun e' => ?_
      obtain ⟨_, o, ho, ht⟩ := hr g (by simpa [Value.ownBlock] using e'.symm)
      rw [hgb] at ho
      cases ho
      rcases ht with q | ⟨cs, fz, q⟩
      · cases q
      · injection q with _ h _
        exact absurd h (by decide)
theorem gcellsP_more (rs : List (Int × Int)) (r1 r2 : Int) : gcells (rs ++ [(r1, r2)]) = gcells rs ++ [.int .i64 r1, .int .i64 r2] := by simp [gcells]

/-- Behind the store. -/
def FinR (W v : World) (B N : Nat) (xs0 : List Value) (g cap : Nat) (r1 r2 : Int) : Prop :=
  Boxed v B 25 (.slice (some ⟨g, 0, none⟩) (N + 1) cap) ∧ v.ownsRow B 65 2 (.slice (some ⟨g, 0, none⟩) (N + 1) cap) (N + 1) (xs0 ++ [.int .i64 r1, .int .i64 r2]) ∧ KeepsOthers W v ∧ Below B W v ∧ ∀ q : Nat → Obj → Prop, (∀ j o, q j o → j ≠ B ∧ (B ≤ j → NoRf o)) → KeptK q W v
/-- A ref more. -/
theorem refP_added {W w2 : World} {B N : Nat} {v : Value} {xs0 : List Value} (r1 r2 : Int) (hv : Boxed W B 25 v) (hrow : W.ownsRow B 65 2 v N xs0) (hb : Below W.heap.size W w2) (hB : B ≤ W.heap.size) (hk : N ≤ 4000000) :
    ∃ g cap w3, (Builtin.append_ #[25, 25] 25 #[v, .slice (some ⟨w2.heap.size, 0, none⟩) 1 1]).run Tryz.prog (w2.alloc (.cells #[.int .i64 r1, .int .i64 r2] 65)) = .ok (.slice (some ⟨g, 0, none⟩) (N + 1) cap) w3 ∧
      (w3.cell? ⟨B, 0, none⟩ = some v ∧ w3.frozen? ⟨B, 0, none⟩ = false) ∧ FinR W (w3.setCell ⟨B, 0, none⟩ (.slice (some ⟨g, 0, none⟩) (N + 1) cap)) B N xs0 g cap r1 r2 := by
  obtain ⟨i0, hi, hz0, hz1, hz2⟩ := info_parts Tryz.infoRef
  have hg2 := grown_of_below hb
  have hv2 : Boxed w2 B 25 v := hv.kept hg2 (fun e' => by cases e')
  have hrow2 : w2.ownsRow B 65 2 v N xs0 := hrow.kept hg2 (by cases Value.ownBlock v <;> simp)
  have hs2 := hb.size
  obtain ⟨v', w3, hrun, hown', hgrow, _⟩ := run_append_own (P := Tryz.prog) (w2.alloc (.cells #[.int .i64 r1, .int .i64 r2] 65)) B 25 25 65 i0 (.agg #[.int .i64 0, .int .i64 0]) 2 16 Tryz.underlying25 hi hz0 hz1 hz2 rfl (by decide) v N _ (hrow2.alloc _) ⟨w2.heap.size, 0, none⟩ 1 1 [.int .i64 r1, .int .i64 r2] rfl (World.news_of_block (heap_alloc_new _ _)) (by simp [Value.oneCell']) (by unfold maxLen; omega) (by omega) (by simp; omega)
  obtain ⟨g, cap, rfl⟩ := ownsRow_succ hown'
  obtain ⟨hv3, hv4, hr4, hk4, hb4⟩ := hv2.appended (by decide) hrow2 (by omega) (Nat.le_refl _) hown' hgrow
  have hk2 : KeepsOthers W w2 := ⟨hs2, fun j _ hj _ => (hb.block j (Array.getElem?_eq_some_iff.1 hj).1).trans hj⟩
  refine ⟨g, cap, w3, hrun, ⟨hv3.cell, hv3.frozen⟩, hv4, hr4, hk2.trans hk4, (hb.mono hB).trans hb4, fun q hq => ?_⟩
  intro j o hj hp
  obtain ⟨h1, h2⟩ := hq j o hp
  have hjl := lt_of_block hj
  have hj2 := (hb.block j hjl).trans hj
  refine (Below.heap_setCell _ ⟨B, 0, none⟩ _ j h1).trans ((hgrow.block j (by simp; omega) (fun e => ?_)).trans ((Below.heap_alloc _ _ _ (lt_of_block hj2)).trans hj2))
  rcases hrow2.2 with ⟨rfl, _⟩ | ⟨g', cap', cur, rfl, hbb, hgb, _⟩
  · simp [Value.ownBlock] at e
  · obtain rfl : j = g' := by simpa [Value.ownBlock] using e
    rw [hgb] at hj2
    cases hj2
    exact h2 hbb _ _ rfl

/-- What holds in the midst of the region, whatever has been done of it. -/
structure Rr5 (W : World) (B N : Nat) (vr : Value) (xs0 : List Value) (pa pb : List UInt8) (v : World) (b0 b1 b2 b3 b4 b5 b6 b7 b8 : Bool) (x15 x16 x17 x18 x19 x20 x21 x22 : Value) : Prop where
  bel : b6 = false → Below W.heap.size W v
  cb : b7 = false → v.cell? ⟨B, 0, none⟩ = some vr
  f0 : b0 = true → x15 = vr
  f1 : b1 = true → x16 = .string (str pa)
  f2 : b2 = true → ∃ r1, rnum pa = some r1 ∧ x17 = .int .i64 r1
  f3 : b3 = true → x18 = .string (str pb)
  f4 : b4 = true → ∃ r2, rnum pb = some r2 ∧ x19 = .int .i64 r2
  f5 : b5 = true → ∃ r1 r2, rnum pa = some r1 ∧ rnum pb = some r2 ∧ x20 = .agg #[.int .i64 r1, .int .i64 r2]
  f6 : b6 = true → b7 = false → ∃ u r1 r2, rnum pa = some r1 ∧ rnum pb = some r2 ∧ Below W.heap.size W u ∧ v = u.alloc (.cells #[.int .i64 r1, .int .i64 r2] 65) ∧ x21 = .slice (some ⟨u.heap.size, 0, none⟩) 1 1
  f7 : b7 = true → b8 = false → ∃ g cap r1 r2, rnum pa = some r1 ∧ rnum pb = some r2 ∧ x22 = .slice (some ⟨g, 0, none⟩) (N + 1) cap ∧ v.cell? ⟨B, 0, none⟩ = some vr ∧ v.frozen? ⟨B, 0, none⟩ = false ∧ FinR W (v.setCell ⟨B, 0, none⟩ (.slice (some ⟨g, 0, none⟩) (N + 1) cap)) B N xs0 g cap r1 r2
  o4 : b4 = true → b2 = true
  o5 : b5 = true → b4 = true
  o6 : b6 = true → b5 = true
  o7 : b7 = true → b6 = true ∧ b0 = true
  o8 : b8 = true → b7 = true
  f8 : b8 = true → ∃ g cap r1 r2, rnum pa = some r1 ∧ rnum pb = some r2 ∧ FinR W v B N xs0 g cap r1 r2
section
variable {W : World} {B N : Nat} {vr : Value} {xs0 : List Value} {pa pb : List UInt8} {v v2 : World} {b0 b1 b2 b3 b4 b5 b6 b7 b8 : Bool} {x15 x16 x17 x18 x19 x20 x21 x22 : Value}
theorem Rr5.mem (H : Rr5 W B N vr xs0 pa pb v b0 b1 b2 b3 b4 b5 false false false x15 x16 x17 x18 x19 x20 x21 x22) (hBl : B < W.heap.size) (hb : Below v.heap.size v v2) : Rr5 W B N vr xs0 pa pb v2 b0 b1 b2 b3 b4 b5 false false false x15 x16 x17 x18 x19 x20 x21 x22 where
  bel h := (H.bel h).trans (hb.mono (H.bel h).size)
  cb h := (hb.cell (p := ⟨B, 0, none⟩) (Nat.lt_of_lt_of_le hBl (H.bel rfl).size)).trans (H.cb h)
  f0 := H.f0
  f1 := H.f1
  f2 := H.f2
  f3 := H.f3
  f4 := H.f4
  f5 := H.f5
  f6 h := by cases h
  f7 h := by cases h
  f8 h := by cases h
  o4 := H.o4
  o5 := H.o5
  o6 h := by cases h
  o7 h := by cases h
  o8 h := by cases h
end

/-- What a round leaves. -/
def BodyR (w w4 : World) (t : List UInt8) (pre : List (List UInt8)) (x : List UInt8) (W : World) (e : Exit) (a' : Act) (W' : World) : Prop :=
  (e = .normal ∧ KeepsOthers W W' ∧ KeptK (fun k o => ((k = w.heap.size + 1 ∨ k = w.heap.size + 1 + 1 ∨ k = w.heap.size + 1 + 1 + 1) ∧ NoRf o) ∨ (w4.heap.size ≤ k ∧ NoRf o)) W W' ∧ GathR w (pre ++ [x]) W') ∨ (e = .panic pnC ∧ a'.defers = [] ∧ KeepsOthers W W' ∧ Below w.heap.size w W' ∧ mapO rref (cutL 43 t) = none)
theorem keeps_of_below {W W' : World} (hb : Below W.heap.size W W') : KeepsOthers W W' := ⟨hb.size, fun j _ hj _ => (hb.block j (lt_of_block hj)).trans hj⟩
theorem rref_of {p : List UInt8} {pa pb : List UInt8} (h : cutO p 58 = some (pa, pb)) : rref p = (match rnum pa, rnum pb with
    | some a, some b => some (a, b)
    | _, _ => none) := by
  unfold cutO at h
  unfold rref
  split at h
  · rename_i hc
    rw [if_pos hc]
    simp only [Option.some.injEq, Prod.mk.injEq] at h
    rw [h.1, h.2]
    cases rnum pa <;> cases rnum pb <;> rfl
  · cases h
theorem rref_cut {p : List UInt8} (h : cutO p 58 = none) : rref p = none := by
  unfold cutO at h
  unfold rref
  split at h
  · cases h
  · rename_i hc; rw [if_neg hc]
theorem cutO_len {p : List UInt8} {c : UInt8} {pa pb : List UInt8} (h : cutO p c = some (pa, pb)) : pa.length ≤ p.length ∧ pb.length ≤ p.length := by
  unfold cutO at h
  split at h
  · simp only [Option.some.injEq, Prod.mk.injEq] at h
    have := cut_len p [c]
    rw [h.1, h.2] at this
    simp at this
    omega
  · cases h

/-- What readRefs leaves. -/
def OutRs (w w' : World) (e : Ending) (t : List UInt8) : Prop := Below w.heap.size w w' ∧ ((∃ va vn vc, ∃ rs : List (Int × Int), mapO rref (cutL 43 t) = some rs ∧ e = .returned (.slice va vn vc) ∧ w'.ownsRow w.heap.size 65 2 (.slice va vn vc) rs.length (gcells rs)) ∨ (mapO rref (cutL 43 t) = none ∧ e = .panicked pnC))
theorem some_len {ls : List (List UInt8)} {rs : List (Int × Int)} (h : ls.map rref = rs.map some) : ls.length = rs.length := by
  have := congrArg List.length h
  simpa using this

set_option maxRecDepth 100000 in
set_option maxHeartbeats 8000000 in
theorem readRefs_any (t : List UInt8) (m : Int) (w : World) (ht : t.length ≤ 1048576) (hm : w.cell? ⟨1, 0, none⟩ = some (.int .i64 m)) (hE : Erv w) (hTb : Tb w) :
    Calls Tryz.prog 70 #[.string (str t)] w fun e w' => OutRs w w' e t := by
  have hlm := World.block_lt_of_cell? _ _ hm
  have HM : Hid (∀ u, Below w.heap.size w u → u.cell? ⟨1, 0, none⟩ = some (.int .i64 m)) := fun u h => (h.cell (p := ⟨1, 0, none⟩) hlm).trans hm
  have HE : Hid (∀ u, Below w.heap.size w u → Erv u ∧ Tb u) := fun u h => ⟨hE.below h, hTb.below h (Nat.le_refl _)⟩
  have hs1 : (w.alloc (.cells #[.slice none 0 0] 25)).heap.size = w.heap.size + 1 := by simp
  have hsp := SplitSeq_any (str t) ⟨#[43]⟩ (w.alloc (.cells #[.slice none 0 0] 25))
  rw [hs1] at hsp
  obtain ⟨k0, k1, k2, k3, k4⟩ := blocks4 w (.cells #[.slice none 0 0] 25) (.cells #[.string (str t)] 9) (.cells #[.string ⟨#[43]⟩] 9) (.cells #[.int .i64 0] 3)
  obtain ⟨w4, hw4⟩ : ∃ V, V = ((((w.alloc (.cells #[.slice none 0 0] 25)).alloc (.cells #[.string (str t)] 9)).alloc (.cells #[.string ⟨#[43]⟩] 9)).alloc (.cells #[.int .i64 0] 3)) := ⟨_, rfl⟩
  have hb4 : Below w.heap.size w w4 := by
    rw [hw4]
    exact (below_box2 _ _).trans ((below_box2 _ _).mono (below_box2 _ _).size)
  have hO4 : w4.ownsRow w.heap.size 65 2 (.slice none 0 0) 0 [] := World.ownsRow_nil _ _ _ _
  have hV4 : Boxed w4 w.heap.size 25 (.slice none 0 0) := by
    rw [hw4]
    exact (((Boxed.new w 25 (.slice none 0 0)).alloc _).alloc _).alloc _
  rw [← hw4] at hsp k0 k1 k2 k3 k4
  clear hw4 hm hlm hE hTb hs1
  refine calls_of_wpX (n := 3) Tryz.func70 rfl ?_
  simp only [Tryz.ntmps70, List.size_toArray, List.length_cons, List.length_nil, Nat.reduceAdd, Nat.reduceSub, Array.replicate_succ, Array.replicate_zero, List.push_toArray, List.append_toArray, List.nil_append, List.cons_append]
  refine wpX_seq ?_
  refine wpX_of (n := 3) ?_
  gi_wp2
  refine wpX_seq ?_
  refine wpX_of (n := 3) ?_
  gi_wp2
  refine wpX_seq ?_
  refine wpX_seq ?_
  refine wpX_of (n := 3) ?_
  gi_wp2_with (first | (refine ⟨trivial, ?_⟩; gi_at_call 87; refine (callsIn_wide.2 hsp).mono ?_; rintro e w' ⟨rfl, hw⟩; have hw2 := hw.symm; subst hw2))
  refine wpX_block ?_
  refine range_allP (gf := 115) (lb := #[.pointer (some ⟨w.heap.size + 1 + 1, 0, none⟩), .pointer (some ⟨w.heap.size + 1, 0, none⟩), .pointer (some ⟨w.heap.size + 1 + 1 + 1, 0, none⟩)]) rfl (enters_of Tryz.func115 (by kernel_rfl) rfl)
    (split_tellsP (w.heap.size + 1) (w.heap.size + 1 + 1) (w.heap.size + 1 + 1 + 1) 43 t w4 ht k1 k2 k3 (by omega) (by omega)) (fun r e => by omega) (fun r o e => by have := e.1; omega) (Nat.le_refl _) (fun _ _ h _ => h) (fun _ => rfl)
    (GathR w) (GathR.own (fun r e => by rcases e with q | q <;> omega)) (fun V => Below w.heap.size w V ∧ mapO rref (cutL 43 t) = none) ⟨⟨none, 0, 0, [], rfl, hV4, hO4⟩, hb4⟩
    (fun x => { tmps := #[.string (str t), undef, .slice none 0 0, .pointer (some ⟨w.heap.size, 0, none⟩), .string (str x), undef, undef, .string (str t), .func (.func 115) #[] #[.pointer (some ⟨w.heap.size + 1 + 1, 0, none⟩), .pointer (some ⟨w.heap.size + 1, 0, none⟩), .pointer (some ⟨w.heap.size + 1 + 1 + 1, 0, none⟩)], .string (str x), undef, undef, undef, undef, undef, undef, undef, undef, undef, undef, undef, undef, undef, undef], defers := [] }) ?assign ?body ?done ?pan
  case assign =>
    intro l x V K hK
    gi_wp2
    exact hK
  case body =>
    rintro l pre x W hx ⟨⟨va, vn, vc, rs, hrs, hv, hrow⟩, hB⟩ hlen
    show Code.wpIn _ _ _ _ (fun e a' W' => BodyR w w4 t pre x W e a' W') _ _
    have hxl : x.length ≤ 1048576 := Nat.le_trans (cutL_sub 43 t x hx) ht
    have hC := cutAt_any x 58 m W hxl (HM.out W hB)
    have HBX : Hid (Boxed W w.heap.size 25 (.slice va vn vc)) := hv
    have HRW : Hid (W.ownsRow w.heap.size 65 2 (.slice va vn vc) pre.length (gcells rs)) := hrow
    have HRS : Hid (pre.map rref = rs.map some) := hrs
    have HBW : Hid (Below w.heap.size w W) := hB
    have hBW : w.heap.size < W.heap.size := lt_of_block hv
    have hlen4 : pre.length ≤ 4000000 := Nat.le_of_lt hlen
    clear hv hrow hrs hB
    cases hct : cutO x 58 with
    | none =>
      rw [hct] at hC
      have hC' : Calls Tryz.prog 88 #[.string (str x), .string ⟨#[58]⟩] W fun e w' => e = .panicked pnC ∧ Below W.heap.size W w' := hC
      clear hC
      gi_wp2_with (first | (refine ⟨trivial, ?_⟩; gi_at_call 88; refine (CallsIn.inRound l (callsIn_wide.2 hC')).mono ?_; rintro e w5 ⟨rfl, hb5⟩))
      show BodyR w w4 t pre x W (.panic pnC) _ w5
      exact .inr ⟨rfl, rfl, keeps_of_below hb5, HBW.out.trans (hb5.mono HBW.out.size), mapO_none hx (rref_cut hct)⟩
    | some pp =>
      obtain ⟨pa, pb⟩ := pp
      rw [hct] at hC
      have hC' : Calls Tryz.prog 88 #[.string (str x), .string ⟨#[58]⟩] W fun e w' => e = .returned (.tuple #[.string (str pa), .string (str pb)]) ∧ Below W.heap.size W w' := hC
      have HCT : Hid (cutO x 58 = some (pa, pb)) := hct
      have hpl := cutO_len hct
      have HN1 : Hid (∀ u, Below W.heap.size W u → Calls Tryz.prog 69 #[.string (str pa)] u fun e w' => e = endR (rnum pa) (fun v => .int .i64 v) ∧ Below u.heap.size u w') := fun u hu => readNumber_any pa u (by omega) (HE.out u (HBW.out.trans (hu.mono HBW.out.size))).1 (HE.out u (HBW.out.trans (hu.mono HBW.out.size))).2
      have HN2 : Hid (∀ u, Below W.heap.size W u → Calls Tryz.prog 69 #[.string (str pb)] u fun e w' => e = endR (rnum pb) (fun v => .int .i64 v) ∧ Below u.heap.size u w') := fun u hu => readNumber_any pb u (by omega) (HE.out u (HBW.out.trans (hu.mono HBW.out.size))).1 (HE.out u (HBW.out.trans (hu.mono HBW.out.size))).2
      clear hC hct hpl
      gi_wp2_with (first | (refine ⟨trivial, ?_⟩; gi_at_call 88; refine (CallsIn.inRound l (callsIn_wide.2 hC')).mono ?_; clear hC'; rintro e w5 ⟨rfl, hb5⟩; have HB5 : Hid (Below W.heap.size W w5) := hb5; clear hb5))
      refine wpIn_region_any (by kernel_rfl) ?_
      change wpAnyIn _ _ _ _ _ _ _ _ _ (World.drew _)
      refine wpAnyIn_inv (fun L a v => ∃ (b0 b1 b2 b3 b4 b5 b6 b7 b8 : Bool) (x15 x16 x17 x18 x19 x20 x21 x22 : Value), L = #[b0, b1, b2, b3, b4, b5, b6, b7, b8] ∧ a = { tmps := #[.string (str t), undef, .slice none 0 0, .pointer (some ⟨w.heap.size, 0, none⟩), .string (str x), .string (str pa), .string (str pb), .string (str t), .func (.func 115) #[] #[.pointer (some ⟨w.heap.size + 1 + 1, 0, none⟩), .pointer (some ⟨w.heap.size + 1, 0, none⟩), .pointer (some ⟨w.heap.size + 1 + 1 + 1, 0, none⟩)], .string (str x), .tuple #[.string (str pa), .string (str pb)], .string (str x), .tuple #[.string (str pa), .string (str pb)], .string (str pa), .string (str pb), x15, x16, x17, x18, x19, x20, x21, x22, undef], defers := [] } ∧ Rr5 W w.heap.size pre.length (.slice va vn vc) (gcells rs) pa pb v b0 b1 b2 b3 b4 b5 b6 b7 b8 x15 x16 x17 x18 x19 x20 x21 x22) ?step ?done2 _ _ _ _ (by simp) ?start
      case start =>
        refine ⟨false, false, false, false, false, false, false, false, false, undef, undef, undef, undef, undef, undef, undef, undef, rfl, rfl, ?_⟩
        exact { bel := fun _ => HB5.out.drew, cb := fun _ => (HB5.out.cell (p := ⟨w.heap.size, 0, none⟩) hBW).trans HBX.out.cell, f0 := fun h => (by cases h), f1 := fun h => (by cases h), f2 := fun h => (by cases h), f3 := fun h => (by cases h), f4 := fun h => (by cases h), f5 := fun h => (by cases h), f6 := fun h => (by cases h), f7 := fun h => (by cases h), o4 := fun h => (by cases h), o5 := fun h => (by cases h), o6 := fun h => (by cases h), o7 := fun h => (by cases h), o8 := fun h => (by cases h), f8 := fun h => (by cases h) }
      case done2 =>
        rintro L a v ⟨b0, b1, b2, b3, b4, b5, b6, b7, b8, x15, x16, x17, x18, x19, x20, x21, x22, rfl, rfl, H⟩ hr
        have hall := ready_all (by kernel_rfl) hr
        obtain rfl : b8 = true := hall 8 (by decide)
        obtain ⟨g, cap, r1, r2, e1, e2, h1, h2, h3, h4, h5⟩ := H.f8 rfl
        show BodyR w w4 t pre x W .normal _ v
        refine .inl ⟨rfl, h3, h5 _ (fun j o e => ?_), ⟨some ⟨g, 0, none⟩, pre.length + 1, cap, rs ++ [(r1, r2)], ?_, h1, ?_⟩, HBW.out.trans h4⟩
        · rcases e with q | q
          · exact ⟨by omega, fun _ => q.2⟩
          · exact ⟨by have := q.1; omega, fun _ => q.2⟩
        · rw [List.map_append, List.map_append, HRS.out]
          simp [rref_of HCT.out, e1, e2]
        · rw [gcellsP_more, List.length_append]; exact h2
      case step =>
        rintro L a v i ⟨b0, b1, b2, b3, b4, b5, b6, b7, b8, x15, x16, x17, x18, x19, x20, x21, x22, rfl, rfl, H⟩ hi
        have hlt : i < 9 := ready_lt hi
        obtain rfl | rfl | rfl | rfl | rfl | rfl | rfl | rfl | rfl : i = 0 ∨ i = 1 ∨ i = 2 ∨ i = 3 ∨ i = 4 ∨ i = 5 ∨ i = 6 ∨ i = 7 ∨ i = 8 := by omega
        · obtain rfl : b0 = false := ready_new hi
          obtain rfl : b7 = false := Bool.eq_false_iff.2 (fun h => by have := (H.o7 h).2; cases this)
          obtain rfl : b8 = false := Bool.eq_false_iff.2 (fun h => by have := H.o8 h; cases this)
          have hc := H.cb rfl
          refine wpOpIn_run (o := _) rfl rfl (fun K hK => ?_)
          go_simp
          refine hK _ _ ?_
          exact ⟨_, _, _, _, _, _, _, _, _, _, _, _, _, _, _, _, _, rfl, rfl, { H with f0 := fun _ => rfl, o7 := fun h => by cases h }⟩
        · obtain rfl : b1 = false := ready_new hi
          refine wpOpIn_run (o := _) rfl rfl (fun K hK => ?_)
          go_simp
          refine hK _ _ ?_
          exact ⟨_, _, _, _, _, _, _, _, _, _, _, _, _, _, _, _, _, rfl, rfl, { H with f1 := fun _ => rfl }⟩
        · obtain rfl : b2 = false := ready_new hi
          obtain rfl : b1 = true := ready_dep (d := 1) hi (by kernel_rfl)
          obtain rfl : b4 = false := Bool.eq_false_iff.2 (fun h => by have := H.o4 h; cases this)
          obtain rfl : b5 = false := Bool.eq_false_iff.2 (fun h => by have := H.o5 h; cases this)
          obtain rfl : b6 = false := Bool.eq_false_iff.2 (fun h => by have := H.o6 h; cases this)
          obtain rfl : b7 = false := Bool.eq_false_iff.2 (fun h => by have := (H.o7 h).1; cases this)
          obtain rfl : b8 = false := Bool.eq_false_iff.2 (fun h => by have := H.o8 h; cases this)
          obtain rfl := H.f1 rfl
          have hW := HN1.out v (H.bel rfl)
          cases hr : rnum pa with
          | none =>
            rw [hr] at hW
            refine wpOpIn_run (o := _) rfl rfl (fun K hK => ?_)
            go_simp
            refine ⟨trivial, ?_⟩
            refine (CallsIn.inRound l (callsIn_wide.2 hW)).mono ?_
            rintro e v5 ⟨rfl, hb5⟩
            show BodyR w w4 t pre x W (.panic pnC) _ v5
            have hbv : Below W.heap.size W v5 := (H.bel rfl).trans (hb5.mono (H.bel rfl).size)
            exact .inr ⟨rfl, rfl, keeps_of_below hbv, HBW.out.trans (hbv.mono HBW.out.size), mapO_none hx (by rw [rref_of HCT.out, hr])⟩
          | some z =>
            rw [hr] at hW
            refine wpOpIn_run (o := _) rfl rfl (fun K hK => ?_)
            go_simp
            refine ⟨trivial, ?_⟩
            refine (CallsIn.inRound l (callsIn_wide.2 hW)).mono ?_
            rintro e v5 ⟨rfl, hb5⟩
            show K _ _
            refine hK _ _ ?_
            have HM := H.mem hBW hb5
            exact ⟨_, _, _, _, _, _, _, _, _, _, _, _, _, _, _, _, _, rfl, rfl, { HM with f2 := fun _ => ⟨z, hr, rfl⟩, o4 := fun h => by cases h }⟩
        · obtain rfl : b3 = false := ready_new hi
          refine wpOpIn_run (o := _) rfl rfl (fun K hK => ?_)
          go_simp
          refine hK _ _ ?_
          exact ⟨_, _, _, _, _, _, _, _, _, _, _, _, _, _, _, _, _, rfl, rfl, { H with f3 := fun _ => rfl }⟩
        · obtain rfl : b4 = false := ready_new hi
          obtain rfl : b3 = true := ready_dep (d := 3) hi (by kernel_rfl)
          obtain rfl : b2 = true := ready_dep (d := 2) hi (by kernel_rfl)
          obtain rfl : b5 = false := Bool.eq_false_iff.2 (fun h => by have := H.o5 h; cases this)
          obtain rfl : b6 = false := Bool.eq_false_iff.2 (fun h => by have := H.o6 h; cases this)
          obtain rfl : b7 = false := Bool.eq_false_iff.2 (fun h => by have := (H.o7 h).1; cases this)
          obtain rfl : b8 = false := Bool.eq_false_iff.2 (fun h => by have := H.o8 h; cases this)
          obtain rfl := H.f3 rfl
          have hW := HN2.out v (H.bel rfl)
          cases hr : rnum pb with
          | none =>
            rw [hr] at hW
            refine wpOpIn_run (o := _) rfl rfl (fun K hK => ?_)
            go_simp
            refine ⟨trivial, ?_⟩
            refine (CallsIn.inRound l (callsIn_wide.2 hW)).mono ?_
            rintro e v5 ⟨rfl, hb5⟩
            show BodyR w w4 t pre x W (.panic pnC) _ v5
            have hbv : Below W.heap.size W v5 := (H.bel rfl).trans (hb5.mono (H.bel rfl).size)
            exact .inr ⟨rfl, rfl, keeps_of_below hbv, HBW.out.trans (hbv.mono HBW.out.size), mapO_none hx (by rw [rref_of HCT.out, hr]; cases rnum pa <;> rfl)⟩
          | some z =>
            rw [hr] at hW
            refine wpOpIn_run (o := _) rfl rfl (fun K hK => ?_)
            go_simp
            refine ⟨trivial, ?_⟩
            refine (CallsIn.inRound l (callsIn_wide.2 hW)).mono ?_
            rintro e v5 ⟨rfl, hb5⟩
            show K _ _
            refine hK _ _ ?_
            have HM := H.mem hBW hb5
            exact ⟨_, _, _, _, _, _, _, _, _, _, _, _, _, _, _, _, _, rfl, rfl, { HM with f4 := fun _ => ⟨z, hr, rfl⟩, o4 := fun _ => rfl, o5 := fun h => by cases h }⟩
        · obtain rfl : b5 = false := ready_new hi
          obtain rfl : b2 = true := ready_dep (d := 2) hi (by kernel_rfl)
          obtain rfl : b4 = true := ready_dep (d := 4) hi (by kernel_rfl)
          obtain rfl : b6 = false := Bool.eq_false_iff.2 (fun h => by have := H.o6 h; cases this)
          obtain rfl : b7 = false := Bool.eq_false_iff.2 (fun h => by have := (H.o7 h).1; cases this)
          obtain rfl : b8 = false := Bool.eq_false_iff.2 (fun h => by have := H.o8 h; cases this)
          obtain ⟨r1, e1, q1⟩ := H.f2 rfl
          obtain ⟨r2, e2, q2⟩ := H.f4 rfl
          subst q1 q2
          refine wpOpIn_run (o := _) rfl rfl (fun K hK => ?_)
          go_simp
          refine hK _ _ ?_
          exact ⟨_, _, _, _, _, _, _, _, _, _, _, _, _, _, _, _, _, rfl, rfl, { H with f5 := fun _ => ⟨r1, r2, e1, e2, rfl⟩, o5 := fun _ => rfl, o6 := fun h => by cases h }⟩
        · obtain rfl : b6 = false := ready_new hi
          obtain rfl : b5 = true := ready_dep (d := 5) hi (by kernel_rfl)
          obtain rfl : b7 = false := Bool.eq_false_iff.2 (fun h => by have := (H.o7 h).1; cases this)
          obtain rfl : b8 = false := Bool.eq_false_iff.2 (fun h => by have := H.o8 h; cases this)
          obtain ⟨r1, r2, e1, e2, q⟩ := H.f5 rfl
          subst q
          refine wpOpIn_run (o := _) rfl rfl (fun K hK => ?_)
          go_simp
          refine hK _ _ ?_
          exact ⟨_, _, _, _, _, _, _, _, _, _, _, _, _, _, _, _, _, rfl, rfl, { H with bel := fun h => (by cases h), cb := fun _ => kept1 _ (H.cb rfl), f6 := fun _ _ => ⟨v, r1, r2, e1, e2, H.bel rfl, rfl, rfl⟩, f7 := fun h => (by cases h), f8 := fun h => (by cases h), o6 := fun _ => rfl, o7 := fun h => by cases h }⟩
        · obtain rfl : b7 = false := ready_new hi
          obtain rfl : b0 = true := ready_dep (d := 0) hi (by kernel_rfl)
          obtain rfl : b6 = true := ready_dep (d := 6) hi (by kernel_rfl)
          obtain rfl : b8 = false := Bool.eq_false_iff.2 (fun h => by have := H.o8 h; cases this)
          obtain ⟨u, r1, r2, e1, e2, hu, hv7, q⟩ := H.f6 rfl rfl
          obtain rfl := H.f0 rfl
          subst hv7 q
          obtain ⟨g, cap, w7, hrun, hc7, hF⟩ := refP_added r1 r2 HBX.out HRW.out hu HBW.out.size hlen4
          refine wpOpIn_run (o := _) rfl rfl (fun K hK => ?_)
          refine stepIn_append (v := .slice va vn vc) (u := .slice (some ⟨u.heap.size, 0, none⟩) 1 1) rfl (.tmp 15) (.tmp 21) 25 rfl rfl rfl hrun ?_
          refine hK _ _ ?_
          exact ⟨_, _, _, _, _, _, _, _, _, _, _, _, _, _, _, _, _, rfl, rfl, { H with bel := fun h => (by cases h), cb := fun h => (by cases h), f6 := fun _ h => (by cases h), f7 := fun _ _ => ⟨g, cap, r1, r2, e1, e2, rfl, hc7.1, hc7.2, hF⟩, f8 := fun h => (by cases h), o7 := fun _ => ⟨rfl, rfl⟩, o8 := fun h => by cases h }⟩
        · obtain rfl : b8 = false := ready_new hi
          obtain rfl : b7 = true := ready_dep (d := 7) hi (by kernel_rfl)
          obtain ⟨g, cap, r1, r2, e1, e2, q, hc, hf, hF⟩ := H.f7 rfl rfl
          subst q
          refine wpOpIn_run (o := _) rfl rfl (fun K hK => ?_)
          go_simp
          refine hK _ _ ?_
          exact ⟨_, _, _, _, _, _, _, _, _, _, _, _, _, _, _, _, _, rfl, rfl, { H with bel := fun h => (by have := (H.o7 rfl).1; rw [this] at h; cases h), cb := fun h => (by cases h), f6 := fun _ h => (by cases h), f7 := fun _ h => (by cases h), f8 := fun _ => ⟨g, cap, r1, r2, e1, e2, hF⟩, o8 := fun _ => rfl }⟩
  case done =>
    rintro D W hD ⟨⟨va, vn, vc, rs, hrs, hv, hrow⟩, hB⟩ hK
    refine .inl ⟨rfl, ?_⟩
    show wpX _ _ _ _
    refine wpX_of (n := 3) ?_
    have hc := hv.cell
    gi_wp2
    refine ⟨by simp, .inl ⟨_, _, rfl, run_takeDeferred hK, ?_⟩⟩
    refine ⟨_, results_tmp rfl _ _ _, hB.trans (belowK_b (w := w) (Nat.le_refl _) W D _ _ (by omega) hK rfl rfl), .inl ⟨va, vn, vc, rs, mapO_some hrs, rfl, ?_⟩⟩
    have := ownsRow_putObj hrow (.deferred none) hK rfl
    rw [some_len hrs] at this
    exact this
  case pan =>
    rintro D W hD ⟨hB, hz⟩ hK
    refine .inr ⟨_, rfl, ?_⟩
    show bodyPostM _ _ _ _ _ (.panic pnC) _ _
    refine ⟨by simp, .inl ⟨_, _, rfl, run_takeDeferred hK, ?_⟩⟩
    exact ⟨hB.trans (belowK_b (w := w) (Nat.le_refl _) W D _ _ (by omega) hK rfl rfl), .inr ⟨hz, rfl⟩⟩

end Go.Proofs.YtciefdphjkjikaaGreatDoor
