/- The program finds the coins of a number in its purse. -/
import Derived.Test.YthjolannlefbcaaGreatDoorQb
import Derived.Test.YthjolannlefbcaaGreatDoorJn7
import Derived.Maps.RangeWalk
namespace Go.Proofs.YthjolannlefbcaaGreatDoor
open Go.RowKit Go.Maps Go.WideMaps

theorem ranges_iter {P : Program} {k : TypeId} {R : Value → Option (DataW Value × List MemPlace)} {w : World} {b r n : Nat} {D : DataW Value} {left : Lit → Bool} {cnt : Nat} (h : w.ranges P k R b r n D left cnt) : ∃ m s q c, w.heap[r]? = some (.mapIter m s q c) := by
  obtain ⟨es, clock, since, seen, c0, _, _, _, _, hr, _⟩ := h
  exact ⟨_, _, _, _, hr⟩
theorem Pu.iter {w w' : World} {lo B r : Nat} {ps : List (Co × Value)} (h : Pu w lo B ps) (hr : ∃ m s q c, w.heap[r]? = some (.mapIter m s q c)) (hg : w.grownBy w' (some r)) : Pu w' lo B ps := by
  obtain ⟨m, s, q, c, hr⟩ := hr
  obtain ⟨D, ho, hsz, hat⟩ := h.map
  have hB : B ≠ r := fun e => by
    obtain ⟨es, clock, hb, _⟩ := ho
    rw [e, hr] at hb
    cases hb
  refine ⟨⟨D, ho.kept hg (by simpa using hB), hsz, hat⟩, fun x hx => (h.rows x hx).kept hg (.inr fun e => ?_), h.base, h.apart, h.refs, h.wfs⟩
  rcases (h.rows x hx).2 with ⟨e1, _⟩ | ⟨g, cp, cur, e1, _, hh, _⟩
  · rw [e1] at e; cases e
  · rw [e1] at e
    have : g = r := by simpa [Value.ownBlock] using e
    rw [this, hr] at hh
    cases hh
theorem Pu.told {w : World} {lo B : Nat} {ps : List (Co × Value)} (hP : Pu w lo B ps) : ∃ D : DataW Value, w.ownsMap Tryz.prog 38 Rv B ps.length D ∧ Told D ps := by
  obtain ⟨D, hown, hsz, hat0⟩ := hP.map
  exact ⟨D, hown, hsz, hat0, hP.refs, hP.wfs, fun x hx => by
    rcases (hP.rows x hx).2 with ⟨e1, _⟩ | ⟨g, cp, cur, e1, _⟩
    · exact ⟨none, 0, 0, e1⟩
    · exact ⟨_, _, _, e1⟩⟩

def ofP (ss : List SC) (id : Int) : List (Co × Value) := (ss.map Subtype.val).filter fun x => decide (x.1.p = id)
theorem ofP_yes {ss : List SC} {z : SC} {id : Int} (h : z.1.1.p = id) : ofP (ss ++ [z]) id = ofP ss id ++ [z.1] := by
  unfold ofP
  rw [List.map_append, List.filter_append]
  simp [h]
theorem ofP_no {ss : List SC} {z : SC} {id : Int} (h : ¬ z.1.1.p = id) : ofP (ss ++ [z]) id = ofP ss id := by
  unfold ofP
  rw [List.map_append, List.filter_append]
  simp [h]
theorem ofP_mem {ps : List (Co × Value)} {left : Lit → Bool} {ss : List SC} {id : Int} (h : ComeC ps left ss) : ∀ x ∈ ofP ss id, x ∈ ps := fun x hx => by
  obtain ⟨y, hy, rfl⟩ := List.mem_map.1 (List.mem_filter.1 hx).1
  exact h.1 y hy
theorem ofP_new {ps : List (Co × Value)} {left : Lit → Bool} {ss : List SC} {id : Int} (h : ComeC ps left ss) (_hrefs : ps.Pairwise fun x y => refOf x ≠ refOf y) {z : SC} {kl : Lit} (hz : z.1 ∈ ps) (hk : keyOf Tryz.prog 38 (encR (refOf z.1)) = some kl) (hl : left kl = true) : ∀ x ∈ ofP ss id, x ≠ z.1 := fun x hx e => by
  obtain ⟨y, hy, rfl⟩ := List.mem_map.1 (List.mem_filter.1 hx).1
  exact (h.2.2 z.1 hz kl hk).1 hl ⟨y, hy, e⟩
theorem ofP_find {ps : List (Co × Value)} {left : Lit → Bool} {ss : List SC} {id : Int} (h : ComeC ps left ss) (hrefs : ps.Pairwise fun x y => refOf x ≠ refOf y) {z : SC} {kl : Lit} (hz : z.1 ∈ ps) (hk : keyOf Tryz.prog 38 (encR (refOf z.1)) = some kl) (hl : left kl = true) : findP (ofP ss id) (refOf z.1) = none := by
  unfold findP
  rw [List.find?_eq_none]
  intro x hx e
  exact ofP_new h hrefs hz hk hl x hx (refs_inj hrefs x (ofP_mem h x hx) z.1 hz (by simpa using e))
theorem ofP_length {ps : List (Co × Value)} {left : Lit → Bool} {ss : List SC} {id : Int} (h : ComeC ps left ss) : (ofP ss id).length ≤ ps.length := by
  have h1 : (ofP ss id).length ≤ ss.length := by
    unfold ofP
    refine Nat.le_trans (List.length_filter_le _ _) (by simp)
  have h2 : ((ss.map Subtype.val).map refOf).Nodup := by
    unfold List.Nodup
    rw [List.pairwise_map, List.pairwise_map]
    exact h.2.1
  have h3 := sub_length ((ss.map Subtype.val).map refOf) (ps.map refOf) h2 fun r hr => by
    obtain ⟨x, hx, rfl⟩ := List.mem_map.1 hr
    obtain ⟨y, hy, rfl⟩ := List.mem_map.1 hx
    exact List.mem_map.2 ⟨y.1, h.1 y hy, rfl⟩
  simp at h3
  omega
theorem ofP_all {ps : List (Co × Value)} {ss : List SC} {id : Int} {cs : List Co} (h : AllC ps ss) (hmem : ∀ c, c ∈ cs ↔ c ∈ ps.map (·.1)) : ∀ c, c ∈ ofC cs id ↔ c ∈ (ofP ss id).map (·.1) := fun c => by
  unfold ofC ofP
  rw [List.mem_filter, hmem c, List.mem_map, List.mem_map]
  constructor
  · rintro ⟨⟨x, hx, rfl⟩, h2⟩
    obtain ⟨y, hy, rfl⟩ := h.2.2 x hx
    exact ⟨y.1, List.mem_filter.2 ⟨List.mem_map.2 ⟨y, hy, rfl⟩, h2⟩, rfl⟩
  · rintro ⟨x, hx, rfl⟩
    obtain ⟨h1, h2⟩ := List.mem_filter.1 hx
    obtain ⟨y, hy, rfl⟩ := List.mem_map.1 h1
    exact ⟨⟨y.1, h.1 y hy, rfl⟩, h2⟩

/-- In the midst of it. -/
structure MadeM (w wr : World) (lo B : Nat) (ps : List (Co × Value)) (id : Int) (left : Lit → Bool) (ss : List SC) : Prop where
  come : ComeC ps left ss
  pu : Pu wr lo w.heap.size (ofP ss id)
  old : Below w.heap.size w wr

theorem made_store {w w2 : World} {lo B : Nat} {ps : List (Co × Value)} {id : Int} {left : Lit → Bool} {ss : List SC} {z : SC} {kl : Lit} (hP : Pu w lo B ps) (hps : ps.length ≤ 1000) (h : MadeM w w2 lo B ps id left ss) (hz : z.1 ∈ ps) (hk : keyOf Tryz.prog 38 (encR (refOf z.1)) = some kl) (hl : left kl = true) (hid : z.1.1.p = id) :
    ∃ w', (Instr.mapUpdate 52 (.map (some w.heap.size)) (encR (refOf z.1)) (coV z.1)).run Tryz.prog w2 = .ok () w' ∧ Hid (MadeM w w' lo B ps id (fun t => left t && !t.sameKey kl) (ss ++ [z])) ∧ w2.grownBy w' (some w.heap.size) := by
  have hPw := hP.below h.old
  obtain ⟨w', h1, h2, h3⟩ := h.pu.store (x := z.1) (hP.wfs z.1 hz).1 (hP.wfs z.1 hz).2 (ofP_find h.come hP.refs hz hk hl) (Nat.le_trans (ofP_length h.come) hps) (hPw.rows z.1 hz) (fun y hy b hb =>
    pair_of (R := fun x y : Co × Value => ∀ b, x.2.ownBlock = some b → y.2.ownBlock ≠ some b) (fun x y h b h1 h2 => h b h2 h1) hP.apart y (ofP_mem h.come y hy) z.1 hz (ofP_new h.come hP.refs hz hk hl y hy) b hb)
  refine ⟨w', h1, ⟨come_step h.come hP.refs hz hk hl, ?_, h.old.grown h3 h.old.size (fun k e => by cases e; exact Nat.le_refl _)⟩, h3⟩
  rw [ofP_yes hid]
  exact h2

set_option maxRecDepth 100000 in
set_option maxHeartbeats 2000000 in
theorem madeBy_any (B lo : Nat) (id : Int) (ps : List (Co × Value)) (cs : List Co) (w : World) (hP : Pu w lo B ps) (hlo : lo ≤ w.heap.size) (hps : ps.length ≤ 1000) (hri : RiseC cs) (hmem : ∀ c, c ∈ cs ↔ c ∈ ps.map (·.1)) :
    Calls Tryz.prog 53 #[.map (some B), .int .i64 id] w fun e w' => ∃ v, e = .returned v ∧ Hid ((∃ kv, COwn w' lo w'.heap.size v (ofC cs id).length (fun j => (ofC cs id).getD j C0) kv) ∧ Below w.heap.size w w') := by
  have hmm := @run_makeMap Tryz.prog
  have hbm : Below w.heap.size w (w.alloc (.map #[] 0)) := below_box _
  obtain ⟨D, hown, hT⟩ := (hP.below hbm).told
  have HT : Hid (Told D ps) := hT
  have HP : Hid (Pu w lo B ps) := hP
  have HM0 : Hid (MadeM w (w.alloc (.map #[] 0)) lo B ps id (fun kl => Maps.has D kl) []) := ⟨come_start hT, Pu.made hlo, hbm⟩
  have HRI : Hid (RiseC (ofC cs id)) := hri.filter _
  have HME : Hid (∀ c, c ∈ cs ↔ c ∈ ps.map (·.1)) := hmem
  have hBl := hP.lt
  clear hP hT hri hmem hbm
  go_enter Tryz.func53, Tryz.ntmps53
  go_wp2_with (first
    | (at_range; refine wpList_range_own _ rfl _ 52 rfl 38 75 kR Tryz.underlying52 _ B ps.length _ rfl hown ?_; intro w0 hrg0 hg0 hs0; obtain ⟨rr, hrr⟩ : ∃ r, r = (w.alloc (.map #[] 0)).heap.size := ⟨_, rfl⟩; rw [← hrr] at hrg0 ⊢; have HRR : Hid (rr = w.heap.size + 1) := (by show rr = _; rw [hrr]; simp); clear hrr))
  go_frame
  have HM1 : Hid (MadeM w w0 lo B ps id (fun kl => Maps.has D kl) []) := by
    have h0 := HM0.out
    have hb0 : Below (w.alloc (.map #[] 0)).heap.size (w.alloc (.map #[] 0)) w0 := (Below.refl _ _).grown hg0 (Nat.le_refl _) (fun k e => by cases e)
    exact ⟨h0.come, h0.pu.below hb0, h0.old.trans (hb0.mono h0.old.size)⟩
  clear hg0 hs0 HM0 hown
  go_loopw [6] (fun _ wr => ∃ (left : Lit → Bool) (cnt : Nat) (ss : List SC), wr.ranges Tryz.prog 38 Rv B rr ps.length D left cnt ∧ Hid (MadeM w wr lo B ps id left ss)) (fun _ wr => wr.rangeLeft B rr)
  case atStart => exact ⟨_, _, [], hrg0, HM1.out⟩
  case round =>
    obtain ⟨left, cnt, ss, hrg, HM⟩ := hrel
    go_wp2_with (first
      | (at_next; refine wpList_next_ranges _ rfl _ rfl 38 kR Rv _root_.id _root_.id (fun key kl hk => ⟨key, rfl⟩) (fun v _ _ => ⟨v, rfl⟩) B rr ps.length _ _ _ rfl hrg ?_ ?_))
    · intro hc0 hl0
      have hA := come_all HM.out.come HT.out.wfs hl0
      have hco := coins_any w.heap.size lo (ofP ss id) (ofC cs id) wr HM.out.pu (Nat.le_trans hlo HM.out.old.size) (Nat.le_trans (ofP_length HM.out.come) hps) HRI.out (ofP_all hA HME.out)
      have HBW : Hid (Below w.heap.size w wr) := HM.out.old
      clear hA hrg HM hc0 hl0 hrg0
      go_wp2_with (first | (go_at_call 19; (with_reducible refine hco.mono ?_); clear hco; rintro e w5 ⟨v, rfl, HS⟩))
      go_ret
      exact ⟨v, rfl, HS.out.1, HBW.out.trans (HS.out.2.mono HBW.out.size)⟩
    · intro x c kl yd yp w2 cnt2 hkey hlk hv hat hrg2 hlt hg2 hs2 hen
      obtain rfl : yd = .held c := (Prod.mk.inj (show (DataW.held c, ([] : List MemPlace)) = (yd, yp) from Option.some.inj hv)).1.symm
      obtain ⟨z, hz, rfl, rfl, _, _⟩ := come_which HT.out (show keyOf Tryz.prog 38 x = some kl from hkey) hat
      have hkz : keyOf Tryz.prog 38 (encR (refOf z.1)) = some kl := hkey
      have HM2 : Hid (MadeM w w2 lo B ps id left ss) := ⟨HM.out.come, HM.out.pu.iter (ranges_iter hrg) hg2, HM.out.old.grown hg2 HM.out.old.size (fun k e => by cases e; have := HRR.out; omega)⟩
      have HR0 : Hid (wr.ranges Tryz.prog 38 Rv B rr ps.length D left cnt) := hrg
      obtain ⟨ua, un, uc, hu⟩ := z.2
      have hbx2 : ∀ o1 o2, Below w2.heap.size w2 ((w2.alloc o1).alloc o2) := fun o1 o2 => below_box2 _ _
      have HM4 : ∀ o1 o2, Hid (MadeM w ((w2.alloc o1).alloc o2) lo B ps id left ss) := fun o1 o2 => ⟨HM2.out.come, HM2.out.pu.below (hbx2 _ _), HM2.out.old.trans ((hbx2 _ _).mono HM2.out.old.size)⟩
      have hrg4 : ∀ o1 o2, ((w2.alloc o1).alloc o2).ranges Tryz.prog 38 Rv B rr ps.length D (fun s => left s && !s.sameKey kl) cnt2 := fun o1 o2 => (hrg2.alloc o1).alloc o2
      obtain ⟨e1, e2, _⟩ := blocks2 w2 (.cells #[.int .i64 z.1.1.p, .int .i64 z.1.1.q] 38) (.cells #[.int .i64 z.1.1.p, .int .i64 z.1.1.q, .int .i64 z.1.1.v, .slice ua un uc, .int .i64 z.1.1.x, .int .i64 z.1.1.y, .int .i64 z.1.1.h, .bool z.1.1.m] 75)
      obtain ⟨s0, s1⟩ := cells2 e1
      obtain ⟨⟨t0, t1, t2, t3, t4, t5, t6, t7⟩, _⟩ := cells8 e2
      by_cases hzt : z.1.1.p = id
      · obtain ⟨w5, hrun, HM5, hg5⟩ := made_store HP.out hps (HM4 (.cells #[.int .i64 z.1.1.p, .int .i64 z.1.1.q] 38) (.cells #[.int .i64 z.1.1.p, .int .i64 z.1.1.q, .int .i64 z.1.1.v, .slice ua un uc, .int .i64 z.1.1.x, .int .i64 z.1.1.y, .int .i64 z.1.1.h, .bool z.1.1.m] 75)).out hz hkz hlk hzt
        have HR5 : Hid (w5.ranges Tryz.prog 38 Rv B rr ps.length D (fun s => left s && !s.sameKey kl) cnt2) := (hrg4 _ _).kept hg5 (by simp; omega) (by have := HRR.out; simp; omega)
        have hzb : (z.1.1.p == id) = true := by simp [hzt]
        dsimp only [coV, encR, refOf, _root_.id] at hen hrun ⊢
        rw [hu] at hen hrun ⊢
        clear hs2 hkey hat hv hrg hrg2 HM HM2 HM4 hrg4 hbx2 hz hkz hg2 hg5 hu hzt e1 e2 hrg0 HM1
        go_wp2
        go_roundw
        case rel => exact ⟨_, cnt2, _, HR5.out, HM5.out⟩
        case measure => rw [HR5.out.left_eq, HR0.out.left_eq]; exact hlt
      · have HR5 : Hid (((w2.alloc (.cells #[.int .i64 z.1.1.p, .int .i64 z.1.1.q] 38)).alloc (.cells #[.int .i64 z.1.1.p, .int .i64 z.1.1.q, .int .i64 z.1.1.v, .slice ua un uc, .int .i64 z.1.1.x, .int .i64 z.1.1.y, .int .i64 z.1.1.h, .bool z.1.1.m] 75)).ranges Tryz.prog 38 Rv B rr ps.length D (fun s => left s && !s.sameKey kl) cnt2) := hrg4 _ _
        have HM5 : Hid (MadeM w ((w2.alloc (.cells #[.int .i64 z.1.1.p, .int .i64 z.1.1.q] 38)).alloc (.cells #[.int .i64 z.1.1.p, .int .i64 z.1.1.q, .int .i64 z.1.1.v, .slice ua un uc, .int .i64 z.1.1.x, .int .i64 z.1.1.y, .int .i64 z.1.1.h, .bool z.1.1.m] 75)) lo B ps id (fun t => left t && !t.sameKey kl) (ss ++ [z])) := by
          have h4 := (HM4 (.cells #[.int .i64 z.1.1.p, .int .i64 z.1.1.q] 38) (.cells #[.int .i64 z.1.1.p, .int .i64 z.1.1.q, .int .i64 z.1.1.v, .slice ua un uc, .int .i64 z.1.1.x, .int .i64 z.1.1.y, .int .i64 z.1.1.h, .bool z.1.1.m] 75)).out
          exact ⟨come_step h4.come HP.out.refs hz hkz hlk, by rw [ofP_no hzt]; exact h4.pu, h4.old⟩
        have hzb : (z.1.1.p == id) = false := by simpa using hzt
        dsimp only [coV, encR, refOf, _root_.id] at hen ⊢
        rw [hu] at hen ⊢
        clear hs2 hkey hat hv hrg hrg2 HM HM2 HM4 hrg4 hbx2 hz hkz hg2 hu hzt e1 e2 hrg0 HM1
        go_wp2
        go_roundw
        case rel => exact ⟨_, cnt2, _, HR5.out, HM5.out⟩
        case measure => rw [HR5.out.left_eq, HR0.out.left_eq]; exact hlt

end Go.Proofs.YthjolannlefbcaaGreatDoor
