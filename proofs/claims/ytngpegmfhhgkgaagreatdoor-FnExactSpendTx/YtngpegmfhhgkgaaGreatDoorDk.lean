/- The specification's TakeCoins. -/
import Derived.Test.YtngpegmfhhgkgaaGreatDoorDj
import Derived.Test.YtngpegmfhhgkgaaGreatDoorCz
import Derived.Test.YtngpegmfhhgkgaaGreatDoorCh
namespace Go.Proofs.YtngpegmfhhgkgaaGreatDoor
open Go.RowKit Go.Maps Go.WideMaps

/-- In the midst of the taking. -/
structure MidS (wr : World) (lo : Nat) (v : Value) (m : Nat) (cs : List Co) (rs : List (Int × Int)) (j : Nat) (ts : List Co) (kv : Nat → Value) : Prop where
  own : COwn wr lo wr.heap.size v m (fun t => ts.getD t C0) kv
  len : ts.length = m
  rise : ts.Pairwise (fun x y => 0 < cmpR (y.p, y.q) (x.p, x.q))
  goes : goT cs rs = goT ts (rs.drop j)
  few : m ≤ 40
  good : ∀ c ∈ ts, coinR c = 0
theorem get_mem {ts : List Co} {m j : Nat} (hl : ts.length = m) (hj : j < m) : ts.getD j C0 ∈ ts := by
  rw [List.getD, List.getElem?_eq_getElem (by omega)]; exact List.getElem_mem _
theorem MidS.lens {wr : World} {lo m j : Nat} {v : Value} {cs ts : List Co} {rs : List (Int × Int)} {kv : Nat → Value} (h : MidS wr lo v m cs rs j ts kv) : ∀ t, t < m → (ts.getD t C0).l.length ≤ 1048576 := fun t ht => by
  have := (coin_more (h.good _ (get_mem h.len ht))).2.2.2
  omega
theorem has_find {ts : List Co} {r : Int × Int} : hasC ts r = (ts.find? fun c => decide ((c.p, c.q) = r)).isSome := by
  unfold hasC
  induction ts with
  | nil => rfl
  | cons x t ih =>
    rw [List.any_cons]
    by_cases e : (x.p, x.q) = r
    · rw [List.find?_cons_of_pos (by simp [e]), decide_eq_true e]; rfl
    · rw [List.find?_cons_of_neg (by simp [e]), decide_eq_false e, Bool.false_or]; exact ih

/-- What l4Take comes to. -/
def TakeO (w w' : World) (e : Ending) (g : Int × List Co) : Prop :=
  Below w.heap.size w w' ∧ ((∃ ts, g = (0, ts) ∧ ∃ va vc, e = .returned (.tuple #[.slice va ts.length vc, .bool true]) ∧ ∃ kv, COwn w' w.heap.size w'.heap.size (.slice va ts.length vc) ts.length (fun j => ts.getD j C0) kv) ∨ (g = (4, []) ∧ e = .returned (.tuple #[.slice none 0 0, .bool false])))

theorem own_at2 {w : World} {lo hi n : Nat} {a : Option Addr} {c : Nat} {cs : List Co} {kv : Nat → Value} (h : COwn w lo hi (.slice a n c) n (fun j => cs.getD j C0) kv) (hn : cs.length = n) (hl : ∀ j, j < n → (cs.getD j C0).l.length ≤ 1048576) : CAt w a n cs := by
  obtain ⟨a', c', e, h2⟩ := h.at hn (fun j _ => rfl) hl
  cases e
  exact h2

set_option maxRecDepth 20000 in
set_option maxHeartbeats 4000000 in
theorem l4Take_any (n c n2 c2 : Nat) (a a2 : Option Addr) (cs : List Co) (rs : List (Int × Int)) (w : World) (hn : n ≤ 40) (hok : ∀ c ∈ cs, coinR c = 0) (hri : cs.Pairwise (fun x y => 0 < cmpR (y.p, y.q) (x.p, x.q))) (hn2 : n2 ≤ 4) (hC : CAt w a n cs) (hG : GAt w a2 n2 rs) :
    Calls Tryz.prog 22 #[.slice a n c, .slice a2 n2 c2] w fun e w' => TakeO w w' e (goT cs rs) := by
  have hcp := l4Copy_any n c a cs w (by omega) (fun j hj => hok _ (get_mem hC.1 hj)) hC
  have HOK : Hid (∀ c ∈ cs, coinR c = 0) := hok
  have HRI : Hid (cs.Pairwise (fun x y => 0 < cmpR (y.p, y.q) (x.p, x.q))) := hri
  have HCL : Hid (cs.length = n) := hC.1
  have HG : Hid (GAt w a2 n2 rs) := hG
  have HN : Hid (rs.length = n2) := hG.1
  clear hok hri hC hG
  go_enter Tryz.func22, Tryz.ntmps22
  go_wp2_with (first
    | (go_at_call 41; (with_reducible refine hcp.mono ?_); clear hcp; rintro e w1 ⟨v, kv, rfl, hO, hb1⟩; obtain ⟨va, vc, rfl⟩ := own_slice hO; have HO1 : Hid (COwn w1 w.heap.size w1.heap.size (.slice va n vc) n (fun j => cs.getD j C0) kv) := hO; have HB1 : Hid (Below w.heap.size w w1) := hb1; clear hO hb1))
  go_loopw [6, 7] (fun v i wr => ∃ j : Nat, j ≤ n2 ∧ i = .int .i64 j ∧ Below w.heap.size w wr ∧ ∃ va m vc, v = .slice va m vc ∧ Hid (∃ ts kv, MidS wr w.heap.size (.slice va m vc) m cs rs j ts kv)) (fun _ i _ => n2 - (intOf i).toNat)
  case atStart => exact ⟨0, Nat.zero_le _, rfl, HB1.out, va, n, vc, rfl, cs, kv, HO1.out, HCL.out, HRI.out, rfl, hn, HOK.out⟩
  case round =>
    obtain ⟨j, hj, rfl, hbel, ua, m, uc, rfl, HM⟩ := hrel
    by_cases hlt : j < n2
    · rcases HG.out.2 with h0 | ⟨b, off, e0, l0, d0⟩
      · omega
      subst e0
      obtain ⟨r, hr⟩ : ∃ r, r = rs.getD j G0 := ⟨_, rfl⟩
      obtain ⟨x0, x1⟩ := d0 j hlt
      rw [← hr] at x0 x1
      have z0 := (hbel.cell (p := ⟨b, off + j * 2, none⟩) l0).trans x0
      have z1 := (hbel.cell (p := ⟨b, off + j * 2 + 1, none⟩) l0).trans x1
      have HNX : Hid (rs.drop j = r :: rs.drop (j + 1)) := next_ref HN.out hlt hr
      obtain ⟨rp, rq⟩ := r
      simp only at z0 z1
      obtain ⟨ts, ku, hM⟩ := HM.out
      have HM' : Hid (MidS wr w.heap.size (.slice ua m uc) m cs rs j ts ku) := hM
      have hA := l4At_any m uc ua ts rp rq wr (by have := hM.few; omega) (own_at2 hM.own hM.len hM.lens)
      have hki : (j : Int) < (n2 : Int) := by omega
      have hm40 := hM.few
      have HBW : Hid (Below w.heap.size w wr) := hbel
      cases hfd : ts.find? (fun c : Co => decide ((c.p, c.q) = (rp, rq))) with
      | none =>
        have HGO : Hid (goT cs rs = (4, [])) := by
          show goT cs rs = _
          rw [hM.goes, HNX.out]
          unfold goT
          rw [if_neg (by rw [has_find, hfd]; simp)]
        have HFD : Hid (ts.find? (fun c : Co => decide ((c.p, c.q) = (rp, rq))) = none) := hfd
        clear hM x0 x1 d0 hr HM hfd
        go_wp2_with (first
          | (go_at_call 42; (with_reducible refine hA.mono ?_); clear hA; rintro e w3 ⟨i, rfl, HI, hb3⟩; obtain rfl := at_none HI.out HFD.out; have HB3 : Hid (Below w.heap.size w w3) := HBW.out.trans (hb3.mono HBW.out.size); clear hb3))
        exact bodyPost_ret (v := .tuple #[.slice none 0 0, .bool false]) (by simp [results, Tryz.results22, go_sem]) rfl ⟨HB3.out, .inr ⟨HGO.out, rfl⟩⟩
      | some x =>
        have HFD : Hid (ts.find? (fun c : Co => decide ((c.p, c.q) = (rp, rq))) = some x) := hfd
        have hm0 : ¬ m = 0 := fun e => by
          have h1 : ts = [] := List.length_eq_zero_iff.1 (hM.len.trans e)
          rw [h1] at hfd; cases hfd
        obtain ⟨g, hua, hq1, hq2⟩ : ∃ g, ua = some ⟨g, 0, none⟩ ∧ m ≤ uc ∧ uc ≤ maxLen := by
          obtain ⟨xs, q, _⟩ := hM.own.row
          rcases q.2 with ⟨_, e⟩ | ⟨g, cap, cur, e, _, _, q1, q2, _⟩
          · exact absurd e hm0
          · cases e; exact ⟨g, rfl, q1, q2⟩
        subst hua
        unfold maxLen at hq2
        clear hM x0 x1 d0 hr HM hfd
        go_wp2_with (first
          | (go_at_call 42; (with_reducible refine hA.mono ?_); clear hA; rintro e w3 ⟨i, rfl, HI, hb3⟩; obtain ⟨k, hkm, rfl, HXK⟩ := at_some HI.out HFD.out; have HB3 : Hid (Below w.heap.size w w3) := HBW.out.trans (hb3.mono HBW.out.size); have HW3 : Hid (Below wr.heap.size wr w3) := hb3; clear hb3; have hk0 : ¬ (k : Int) < 0 := (by omega); have hkc : (k : Int) ≤ (uc : Int) := (by omega); have hkc1 : (k : Int) + 1 ≤ (m : Int) := (by omega); have hkc2 : (k : Int) + 1 ≤ (uc : Int) := (by omega)))
        have hbe : Below w3.heap.size w3 (w3.alloc (.cells #[] 68)).drew := (below_box _).trans ((Below.refl _ _).drew)
        have hOw : COwn (w3.alloc (.cells #[] 68)).drew w.heap.size (w3.alloc (.cells #[] 68)).drew.heap.size (.slice (some ⟨g, 0, none⟩) m uc) m (fun t => ts.getD t C0) ku := ((HM'.out.own.below HW3.out).mono HW3.out.size |>.below hbe).mono hbe.size
        have hgl : g < w3.heap.size := by
          obtain ⟨xs, q, _⟩ := HM'.out.own.row
          have := (q.lt g rfl).2
          have := HW3.out.size
          omega
        have HBE : Hid (Below w.heap.size w (w3.alloc (.cells #[] 68)).drew) := HB3.out.trans (hbe.mono HB3.out.size)
        have HOW : Hid (COwn (w3.alloc (.cells #[] 68)).drew w.heap.size (w3.alloc (.cells #[] 68)).drew.heap.size (.slice (some ⟨g, 0, none⟩) m uc) m (fun t => ts.getD t C0) ku) := hOw
        have hwr : IntKind.i64.wrap ((k : Int) + 1) = (k : Int) + 1 := IntWalk.i64_in _ (by omega)
        have htn : ((k : Int) + 1).toNat = k + 1 := by omega
        have h01 : (0 : Int) ≤ (k : Int) + 1 := by omega
        have h11 : (k : Int) ≤ (k : Int) + 1 := by omega
        clear hOw hbe
        by_cases huc : uc = k + 1
        · obtain ⟨g1, c1, g2, c2', w5, w6, hr1, hr2, HCUT⟩ := coin_cut (W := (w3.alloc (.cells #[] 68)).drew) (X := w3.heap.size) (k := k) (o8 := 0) HOW.out (heap_alloc_new w3 (.cells #[] 68)) (by have := HB3.out.size; omega) (by omega) hkm (by omega) (by omega)
          go_region_law (first
            | (have hra := hr1; clear hr1; refine step_append_runD (by rfl) _ _ _ (by rfl) (by rfl) (by rfl) (hra _) ?_; clear hra)
            | (refine step_append_runD (by rfl) _ _ _ (by rfl) (by rfl) (by rfl) (hr2 _ _ (by omega)) ?_))
          all_goals
            go_wp2
            go_roundw
            case rel =>
              obtain ⟨⟨kv', hO'⟩, hb', _⟩ := HCUT.out
              have hx := List.find?_some HFD.out
              have hxr : ((ts.getD k C0).p, (ts.getD k C0).q) = (rp, rq) := by rw [← HXK.out]; simpa using hx
              have hde := drop_erase HM'.out.rise (by rw [HM'.out.len]; exact hkm) hxr
              refine ⟨j + 1, by omega, by go_num, HBE.out.trans hb', _, _, _, rfl, ts.eraseIdx k, kv', hO', by rw [List.length_eraseIdx_of_lt (by rw [HM'.out.len]; exact hkm), HM'.out.len], by rw [← hde]; exact rise_drop _ HM'.out.rise, ?_, by omega, fun c hc => HM'.out.good c ?_⟩
              · rw [HM'.out.goes, HNX.out, ← hde]
                show (if hasC ts (rp, rq) = true then _ else _) = _
                rw [if_pos (by rw [has_find, HFD.out]; rfl)]
              · exact List.mem_of_mem_eraseIdx hc
            case measure => simp [intOf]; omega
        · obtain ⟨g1, c1, g2, c2', w5, w6, hr1, hr2, HCUT⟩ := coin_cut (W := (w3.alloc (.cells #[] 68)).drew) (X := w3.heap.size) (k := k) (o8 := (k + 1) * 8) HOW.out (heap_alloc_new w3 (.cells #[] 68)) (by have := HB3.out.size; omega) (by omega) hkm (by omega) (by omega)
          go_region_law (first
            | (have hra := hr1; clear hr1; refine step_append_runD (by rfl) _ _ _ (by rfl) (by rfl) (by rfl) (hra _) ?_; clear hra)
            | (refine step_append_runD (by rfl) _ _ _ (by rfl) (by rfl) (by rfl) (hr2 _ _ (by omega)) ?_))
          all_goals
            go_wp2
            go_roundw
            case rel =>
              obtain ⟨⟨kv', hO'⟩, hb', _⟩ := HCUT.out
              have hx := List.find?_some HFD.out
              have hxr : ((ts.getD k C0).p, (ts.getD k C0).q) = (rp, rq) := by rw [← HXK.out]; simpa using hx
              have hde := drop_erase HM'.out.rise (by rw [HM'.out.len]; exact hkm) hxr
              refine ⟨j + 1, by omega, by go_num, HBE.out.trans hb', _, _, _, rfl, ts.eraseIdx k, kv', hO', by rw [List.length_eraseIdx_of_lt (by rw [HM'.out.len]; exact hkm), HM'.out.len], by rw [← hde]; exact rise_drop _ HM'.out.rise, ?_, by omega, fun c hc => HM'.out.good c ?_⟩
              · rw [HM'.out.goes, HNX.out, ← hde]
                show (if hasC ts (rp, rq) = true then _ else _) = _
                rw [if_pos (by rw [has_find, HFD.out]; rfl)]
              · exact List.mem_of_mem_eraseIdx hc
            case measure => simp [intOf]; omega
    · obtain ⟨ts, ku, hM⟩ := HM.out
      have hgo : goT cs rs = (0, ts) := by rw [hM.goes, List.drop_of_length_le (by rw [HN.out]; omega)]; rfl
      have HT : Hid (TakeO w wr (.returned (.tuple #[.slice ua m uc, .bool true])) (goT cs rs)) := by
        refine ⟨hbel, .inl ⟨ts, hgo, ua, uc, by rw [hM.len], ku, ?_⟩⟩
        rw [hM.len]
        exact hM.own
      clear hM hgo HM
      go_wp2
      exact bodyPost_ret (v := .tuple #[.slice ua m uc, .bool true]) (by simp [results, Tryz.results22, go_sem]) rfl HT.out

end Go.Proofs.YtngpegmfhhgkgaaGreatDoor
