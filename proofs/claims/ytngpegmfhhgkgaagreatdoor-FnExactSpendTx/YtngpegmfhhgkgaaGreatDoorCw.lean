/- The program's CoinAt. -/
import Derived.Test.YtngpegmfhhgkgaaGreatDoorCv
import Derived.Test.YtngpegmfhhgkgaaGreatDoorCt
namespace Go.Proofs.YtngpegmfhhgkgaaGreatDoor
open Go.RowKit Go.Maps Go.WideMaps

theorem rises {pr : Int × Int} {cs : List Co} (h : csR pr cs = 0) : (∀ c ∈ cs, coinR c = 0) ∧ (∀ c ∈ cs, 0 < cmpR (c.p, c.q) pr) ∧ cs.Pairwise (fun a b => 0 < cmpR (b.p, b.q) (a.p, a.q)) := by
  induction cs generalizing pr with
  | nil => exact ⟨fun c hc => (by cases hc), fun c hc => (by cases hc), List.Pairwise.nil⟩
  | cons c t ih =>
    have h0 : coinR c = 0 := by
      by_cases e : coinR c = 0
      · exact e
      · rw [csR_bad rfl e] at h; exact absurd h e
    have h1 : ¬ cmpR (c.p, c.q) pr ≤ 0 := fun e => by rw [csR_form h0 e] at h; cases h
    rw [csR_go h0 h1] at h
    obtain ⟨i1, i2, i3⟩ := ih h
    refine ⟨fun d hd => ?_, fun d hd => ?_, List.Pairwise.cons (fun d hd => i2 d hd) i3⟩
    · rcases List.mem_cons.1 hd with rfl | hd
      · exact h0
      · exact i1 d hd
    · rcases List.mem_cons.1 hd with rfl | hd
      · omega
      · obtain ⟨p1, p2⟩ := pr
        have a := cmpR_pos.1 (i2 d hd)
        have b := cmpR_pos.1 (show 0 < cmpR (c.p, c.q) (p1, p2) by omega)
        exact cmpR_pos.2 (by omega)
theorem coin_more {c : Co} (h : coinR c = 0) : (1 ≤ c.p ∧ c.p ≤ 60) ∧ (0 ≤ c.q ∧ c.q ≤ 3) ∧ 1 ≤ c.l.length ∧ c.l.length ≤ 3 := by
  unfold coinR at h
  by_cases h1 : refB (c.p, c.q) = false ∨ inB c.h 0 999 = false
  · rw [if_pos h1] at h; cases h
  · rw [if_neg h1] at h; unfold outR at h
    have h2 : refB (c.p, c.q) = true := by cases e : refB (c.p, c.q); exact absurd (.inl e) h1; rfl
    by_cases h3 : inB c.v 1 1000000 = false
    · rw [if_pos h3] at h; cases h
    · rw [if_neg h3] at h; unfold ruleR at h
      by_cases h4 : inB c.l.length 1 3 = false
      · rw [if_pos h4] at h; cases h
      · have h5 : inB c.l.length 1 3 = true := by cases e : inB c.l.length 1 3; exact absurd e h4; rfl
        simp [refB, inB] at h2 h5
        omega
theorem coins_rise {cs : List Co} (h : coinsR cs = 0) : cs.length ≤ 40 ∧ (∀ c ∈ cs, coinR c = 0) ∧ cs.Pairwise (fun a b => 0 < cmpR (b.p, b.q) (a.p, a.q)) := by
  unfold coinsR at h
  by_cases e : 40 < cs.length
  · rw [if_pos e] at h; cases h
  · rw [if_neg e] at h; exact ⟨by omega, (rises h).1, (rises h).2.2⟩
theorem find_none {ps : List (Co × Value)} {L0 cs : List Co} {n j : Nat} {o : Co} (hn : cs.length = n) (hlt : j < n) (ho : o = cs.getD j C0) (hp : ps.map (·.1) = L0 ++ cs.take j) (hr : (L0 ++ cs).Pairwise (fun a b => (a.p, a.q) ≠ (b.p, b.q))) : findP ps (o.p, o.q) = none := by
  unfold findP
  rw [List.find?_eq_none]
  intro y hy
  have h1 : y.1 ∈ L0 ++ cs.take j := by rw [← hp]; exact List.mem_map.2 ⟨y, hy, rfl⟩
  have h2 : L0 ++ cs = (L0 ++ cs.take j) ++ cs.drop j := by rw [List.append_assoc, List.take_append_drop]
  rw [h2, List.pairwise_append] at hr
  have h3 := hr.2.2 y.1 h1 o (by rw [next_coin hn hlt ho]; exact List.mem_cons_self ..)
  intro e
  have e2 : refOf y = (o.p, o.q) := by simpa using e
  exact h3 (by simpa [refOf] using e2)
theorem rise_ne {cs : List Co} (h : cs.Pairwise (fun a b => 0 < cmpR (b.p, b.q) (a.p, a.q))) : cs.Pairwise (fun a b => (a.p, a.q) ≠ (b.p, b.q)) := by
  refine h.imp fun {a b} k e => ?_
  have := cmpR_pos.1 k
  simp at e
  omega

/-- What filling a purse comes to. -/
def FillR (w w' : World) (e : Ending) (cs : List Co) : Prop :=
  Below w.heap.size w w' ∧ ((coinsR cs ≠ 0 ∧ e = .returned (.tuple #[.map none, .int .i64 (coinsR cs)])) ∨ (coinsR cs = 0 ∧ ∃ B ps, e = .returned (.tuple #[.map (some B), .int .i64 0]) ∧ Pu w' w.heap.size B ps ∧ ps.map (·.1) = cs))

set_option maxRecDepth 20000 in
set_option maxHeartbeats 2000000 in
/-- All coins of a list are put into a purse that has none of their refs; the list is older memory than the purse. -/
theorem putAll_any (B lo n c : Nat) (a : Option Addr) (cs : List Co) (ps0 : List (Co × Value)) (w v : World) (hn : n ≤ 500) (hl0 : ps0.length ≤ 500) (hC : CAt w a n cs) (hok : ∀ c ∈ cs, coinR c = 0) (hap : (ps0.map (·.1) ++ cs).Pairwise (fun a b => (a.p, a.q) ≠ (b.p, b.q))) (hbv : Below w.heap.size w v) (hB : w.heap.size ≤ B) (hlo : lo ≤ v.heap.size) (hP : Pu v lo B ps0) :
    Calls Tryz.prog 50 #[.map (some B), .slice a n c] v fun e w' => e = .returned (.tuple #[]) ∧ Hid (∃ ps, Pu w' lo B ps ∧ ps.map (·.1) = ps0.map (·.1) ++ cs) ∧ Below w.heap.size w w' ∧ Chg v w' B (B + 1) := by
  have HC : Hid (CAt w a n cs) := hC
  have HN : Hid (cs.length = n) := hC.1
  have HOK : Hid (∀ c ∈ cs, coinR c = 0) := hok
  have HAP : Hid ((ps0.map (·.1) ++ cs).Pairwise (fun a b => (a.p, a.q) ≠ (b.p, b.q))) := hap
  have HPV : Hid (Pu v lo B ps0) := hP
  have HLB := hP.lt
  clear hC hok hap hP
  go_enter Tryz.func50, Tryz.ntmps50
  go_wp2
  go_loopw [8] (fun i wr => ∃ j : Nat, j ≤ n ∧ i = .int .i64 j ∧ Below w.heap.size w wr ∧ Hid (∃ ps, Pu wr lo B ps ∧ ps.map (·.1) = ps0.map (·.1) ++ cs.take j) ∧ Hid (Chg v wr B (B + 1))) (fun i _ => n - (intOf i).toNat)
  case atStart => exact ⟨0, Nat.zero_le _, rfl, hbv, ⟨ps0, HPV.out, by simp⟩, Chg.refl _ _ _⟩
  case round =>
    obtain ⟨j, hj, rfl, hbel, HP, HCH⟩ := hrel
    by_cases hlt : j < n
    · rcases HC.out.2 with h0 | ⟨b, off, e0, l0, d0⟩
      · omega
      subst e0
      obtain ⟨ps, hPu, hps⟩ := HP.out
      obtain ⟨o, ho⟩ : ∃ o, o = cs.getD j C0 := ⟨_, rfl⟩
      obtain ⟨ka, kc, p0, p4, p5⟩ := d0 j hlt
      rw [← ho] at p0 p4 p5
      have hmem : o ∈ cs := by
        have e : cs.getD j C0 = cs[j]'(by rw [HN.out]; exact hlt) := by simp [List.getD, List.getElem?_eq_getElem (show j < cs.length by rw [HN.out]; exact hlt)]
        rw [ho, e]; exact List.getElem_mem _
      obtain ⟨g1, g2, g3, g4⟩ := coin_more (HOK.out o hmem)
      have hfn := find_none HN.out hlt ho hps HAP.out
      have HNX : Hid (cs.take (j + 1) = cs.take j ++ [o]) := by
        have e : cs.getD j C0 = cs[j]'(by rw [HN.out]; exact hlt) := by simp [List.getD, List.getElem?_eq_getElem (show j < cs.length by rw [HN.out]; exact hlt)]
        show _ = _
        rw [List.take_add_one, ho, e, List.getElem?_eq_getElem (by rw [HN.out]; exact hlt)]; rfl
      have hpl : ps.length = ps0.length + j := by
        have := congrArg List.length hps
        rw [List.length_map, List.length_append, List.length_map, List.length_take] at this
        have := HN.out
        omega
      obtain ⟨op, oq, ov, ol, ox, oy, oh, om⟩ := o
      simp only at p0 p4 p5 g1 g2 g3 g4 hfn
      rcases p5.2 with h0 | ⟨kb, ko, ek, hkl, _⟩
      · omega
      subst ek
      obtain ⟨x0, x1, x2, x3, x4, x5, x6, x7⟩ := p0.below hbel l0
      simp only at x0 x1 x2 x3 x4 x5 x6 x7
      have hbx : Below wr.heap.size wr (wr.alloc (.cells #[.int .i64 op, .int .i64 oq, .int .i64 ov, .slice (some ⟨kb, ko, none⟩) ol.length kc, .int .i64 ox, .int .i64 oy, .int .i64 oh, .bool om] 68)) := below_box _
      have hvs := HCH.out.size
      have hput := put_any B lo kb ko kc ps op oq ov ol ox oy oh om (wr.alloc (.cells #[.int .i64 op, .int .i64 oq, .int .i64 ov, .slice (some ⟨kb, ko, none⟩) ol.length kc, .int .i64 ox, .int .i64 oy, .int .i64 oh, .bool om] 68)) (hPu.below hbx) (Nat.le_trans hlo (Nat.le_trans hvs hbx.size)) (by omega) ((p5.below hbel (Nat.le_refl _)).below hbx (Nat.le_refl _)) (WalkArith.wf_i64 (by omega)) (WalkArith.wf_i64 (by omega)) hfn (by omega)
      have HPS : Hid (ps.map (·.1) = ps0.map (·.1) ++ cs.take j) := hps
      have HBX : Hid (Below w.heap.size w (wr.alloc (.cells #[.int .i64 op, .int .i64 oq, .int .i64 ov, .slice (some ⟨kb, ko, none⟩) ol.length kc, .int .i64 ox, .int .i64 oy, .int .i64 oh, .bool om] 68))) := hbel.trans (hbx.mono hbel.size)
      have HCX : Hid (Chg v (wr.alloc (.cells #[.int .i64 op, .int .i64 oq, .int .i64 ov, .slice (some ⟨kb, ko, none⟩) ol.length kc, .int .i64 ox, .int .i64 oy, .int .i64 oh, .bool om] 68)) B (B + 1)) := HCH.out.trans (Chg.of_below hbx _ _)
      clear ho d0 p0 p4 p5 hmem g1 g2 g3 g4 hfn hPu hps hbx
      have hki : (j : Int) < (n : Int) := by omega
      go_wp2_with (first
        | (go_at_call 75; (with_reducible refine hput.mono ?_); clear hput; rintro e w3 ⟨rfl, HPU, hch⟩; have HB3 : Hid (Below w.heap.size w w3) := HBX.out.trans (hch.below (by omega) (by have := HBX.out.size; omega)); have HC3 : Hid (Chg v w3 B (B + 1)) := HCX.out.trans hch; clear hch))
      go_roundw
      case rel =>
        obtain ⟨u, hu⟩ := HPU.out
        exact ⟨j + 1, by omega, by go_num, HB3.out, ⟨_, hu, by rw [List.map_append, HPS.out, HNX.out, List.append_assoc]; rfl⟩, HC3.out⟩
      case measure => simp [intOf]; omega
    · have e1 : cs.take j = cs := List.take_of_length_le (by rw [HN.out]; omega)
      go_wp2
      go_end0
      obtain ⟨ps, h1, h2⟩ := HP.out
      exact ⟨rfl, ⟨ps, h1, by rw [h2, e1]⟩, hbel, HCH.out⟩

set_option maxRecDepth 20000 in
set_option maxHeartbeats 2000000 in
theorem fillPurse_any (n c : Nat) (a : Option Addr) (cs : List Co) (w : World) (hn : n ≤ 1048576) (hk : ∀ j, j < n → (cs.getD j C0).l.length ≤ 1048576) (hC : CAt w a n cs) :
    Calls Tryz.prog 27 #[.slice a n c] w fun e w' => FillR w w' e cs := by
  have hF := iCoinsFault_any n c a cs w hn hk hC
  have HC : Hid (CAt w a n cs) := hC
  have hmm := @run_makeMap Tryz.prog
  obtain ⟨cd, hcd⟩ : ∃ r, r = coinsR cs := ⟨_, rfl⟩
  rw [← hcd] at hF
  have HCD : Hid (coinsR cs = cd) := hcd.symm
  by_cases h0 : cd = 0
  · subst h0
    obtain ⟨h40, hok, hri⟩ := coins_rise hcd.symm
    rw [hC.1] at h40
    have HOK : Hid (∀ c ∈ cs, coinR c = 0) := hok
    have HRI : Hid (cs.Pairwise (fun a b => (a.p, a.q) ≠ (b.p, b.q))) := rise_ne hri
    clear hcd hC hk hok hri
    go_enter Tryz.func27, Tryz.ntmps27
    go_wp2_with (first
      | (go_at_call 49; (with_reducible refine hF.mono ?_); clear hF; rintro e w2 ⟨rfl, hb2⟩; have hs2 := hb2.size; have hpa := putAll_any w2.heap.size w.heap.size n c a cs [] w (w2.alloc (.map #[] 0)) (by omega) (by simp) HC.out HOK.out (by simpa using HRI.out) (hb2.trans ((below_box _).mono hs2)) hs2 (by simp; omega) (Pu.made hs2); clear hb2)
      | (go_at_call 50; (with_reducible refine hpa.mono ?_); clear hpa; rintro e w3 ⟨rfl, HP, hB3, _⟩))
    refine bodyPost_ret (v := .tuple #[.map (some w2.heap.size), .int .i64 0]) (by simp [results, Tryz.results27, go_sem]) rfl ⟨hB3, .inr ⟨HCD.out, ?_⟩⟩
    obtain ⟨ps, h1, h2⟩ := HP.out
    exact ⟨_, ps, rfl, h1, by simpa using h2⟩
  · clear hcd hC hk
    go_enter Tryz.func27, Tryz.ntmps27
    go_wp2_with (first
      | (go_at_call 49; (with_reducible refine hF.mono ?_); clear hF; rintro e w2 ⟨rfl, hb2⟩))
    refine bodyPost_ret (v := .tuple #[.map none, .int .i64 cd]) (by simp [results, Tryz.results27, go_sem]) rfl ⟨hb2, .inl ⟨by rw [HCD.out]; exact h0, by rw [HCD.out]⟩⟩

/-- What an answer of coins is owed: new memory of its own. -/
def OutCs (w w' : World) (e : Ending) (cd : Int) (cs : List Co) : Prop :=
  ∃ v kv, e = .returned (.agg #[.int .i64 cd, v]) ∧ COwn w' w.heap.size w'.heap.size v cs.length (fun j => cs.getD j C0) kv ∧ Below w.heap.size w w'
theorem COwn.zero {w : World} {lo hi : Nat} (f : Nat → Co) : COwn w lo hi (.slice none 0 0) 0 f (fun _ => .slice none 0 0) :=
  ⟨⟨[], World.ownsRow_nil _ _ _ _, fun j hj => (by omega)⟩, fun b hb => (by cases hb), fun j hj => (by omega), fun i j _ hj => (by omega)⟩
end Go.Proofs.YtngpegmfhhgkgaaGreatDoor
