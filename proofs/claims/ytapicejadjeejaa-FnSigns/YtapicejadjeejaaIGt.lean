/- A new signature in the table, and what of other memory stays. What the program's SignId answers. -/
import Derived.Test.YtapicejadjeejaaINt
import Derived.Test.YtapicejadjeejaaSg
namespace Go.Proofs.Ytapicejadjeejaa
open Go.RowKit Go.Maps Go.WideMaps
attribute [local go_sem ↓] Go.wp_at_zero Go.wp_at_succ

def TopG (w : World) (p top : Nat) : Prop := ∀ iv B, w.heap[p]? = some (.cells #[iv, .map (some B)] 66 (0, 0)) → p < top ∧ B < top ∧ ∀ k, iv.ownBlock = some k → k < top
theorem TwG.top {w : World} {base p : Nat} {l : List (Int × Int)} (h : TwG w base p l) : TopG w p w.heap.size := by
  obtain ⟨iv, B, hp, _, _, ho, ht⟩ := h
  intro iv' B' hp'
  rw [hp] at hp'
  simp at hp'
  obtain ⟨rfl, rfl⟩ := hp'
  exact ⟨lt_of_block hp, ht.lt, fun k hk => (ho.lt k hk).2⟩
theorem TopG.of_block {w w' : World} {p top : Nat} (h : TopG w p top) (hb : w'.heap[p]? = w.heap[p]?) : TopG w' p top := fun iv B hp => h iv B (hb ▸ hp)
theorem TwS.chgT {w w' : World} {base p top hi : Nat} {l : List ByteArray} (h : TwS w base p l) (ht : TopS w p top) (hc : Chg w w' top hi) : TwS w' base p l := by
  obtain ⟨iv, B, hp, hbp, hbB, ho, hT⟩ := h
  obtain ⟨t1, t2, t3⟩ := ht _ _ hp
  refine ⟨iv, B, hc.keep hp (.inl t1), hbp, hbB, hc.row ho (fun k hk => .inl (t3 k hk)), ?_⟩
  obtain ⟨D, hD, hat⟩ := hT
  obtain ⟨es, ck, hes, rest⟩ := hD
  exact ⟨D, ⟨es, ck, (hc.block B (lt_of_block hes) (.inl t2)).trans hes, rest⟩, hat⟩
theorem chg_append {w W : World} {o : Obj} {row : Option Nat} {lo hi : Nat} (hg : (w.alloc o).drew.grownBy W row) (hr : ∀ k, row = some k → lo ≤ k ∧ k < hi) : Chg w W lo hi := by
  have h2 : (w.alloc o).grownBy W row := ⟨hg.os, hg.tape, hg.output, hg.size, hg.block⟩
  exact (Chg.of_below (below_box _) lo hi).trans (Chg.of_grown h2 hr)

/-- From the store into the field to the store into the map. -/
theorem addGF_end {w w1 : World} {base p B g cap b0 ic : Nat} {ia : Option Addr} {l : List (Int × Int)} {a b : Int} (hl : l.length ≤ 200) (ha : (Lit.int .i64 a).wf = true) (hb : (Lit.int .i64 b).wf = true) (hn : num l (a, b) = 0) (hbp : base ≤ p) (hbB : base ≤ B)
    (h : w1.heap[p]? = some (.cells #[.slice ia l.length ic, .map (some B)] 66 (0, 0)) ∧ p ≠ g ∧ Tab 53 encG w1 B l ∧ p ≠ B ∧ Below base w w1 ∧ w1.heap[b0]? = some (.cells #[.int .i64 a, .int .i64 b] 53 (0, 0)) ∧
        w1.ownsRow base 53 2 (.slice (some ⟨g, 0, none⟩) (l.length + 1) cap) (l.length + 1) (gcells l ++ [.int .i64 a, .int .i64 b])) :
    ∃ w5, (Instr.mapUpdate 64 (.map (some B)) (.agg #[.int .i64 a, .int .i64 b]) (.int .i64 ((l.length : Int) + 1))).run Try.prog (w1.setCell ⟨p, 0, none⟩ (.slice (some ⟨g, 0, none⟩) (l.length + 1) cap)).drew = .ok () w5 ∧
      (w1.setCell ⟨p, 0, none⟩ (.slice (some ⟨g, 0, none⟩) (l.length + 1) cap)).cell? ⟨p, 0, none⟩ = some (.slice (some ⟨g, 0, none⟩) (l.length + 1) cap) ∧
      (w1.setCell ⟨p, 0, none⟩ (.slice (some ⟨g, 0, none⟩) (l.length + 1) cap)).cell? ⟨p, 1, none⟩ = some (.map (some B)) ∧
      (w1.setCell ⟨p, 0, none⟩ (.slice (some ⟨g, 0, none⟩) (l.length + 1) cap)).cell? ⟨b0, 0, none⟩ = some (.int .i64 a) ∧
      (w1.setCell ⟨p, 0, none⟩ (.slice (some ⟨g, 0, none⟩) (l.length + 1) cap)).cell? ⟨b0, 1, none⟩ = some (.int .i64 b) ∧
      w5.cell? ⟨p, 0, none⟩ = some (.slice (some ⟨g, 0, none⟩) (l.length + 1) cap) ∧ w5.cell? ⟨p, 1, none⟩ = some (.map (some B)) ∧ w5.cell? ⟨b0, 0, none⟩ = some (.int .i64 a) ∧ w5.cell? ⟨b0, 1, none⟩ = some (.int .i64 b) ∧
      Hid (TwG w5 base p (l ++ [(a, b)]) ∧ Below base w w5 ∧ ∀ top, p < top → B < top → Chg w1 w5 base top) := by
  obtain ⟨hp1, hgp, ht1, hpB, hb1, hbx1, ho1⟩ := h
  obtain ⟨kl, hk⟩ := keyG ha hb
  have hpb : p ≠ b0 := by rintro rfl; rw [hp1] at hbx1; simp at hbx1
  have hBb : B ≠ b0 := by
    rintro rfl
    obtain ⟨D, ⟨es, ck, hes, _⟩, _⟩ := ht1
    rw [hes] at hbx1; simp at hbx1
  have hgB : g ≠ B := by
    rintro rfl
    obtain ⟨D, ⟨es, ck, hes, _⟩, _⟩ := ht1
    rcases ho1.2 with ⟨h, _⟩ | ⟨g', c', cur, h, _, hh, _⟩
    · cases h
    · simp at h
      rw [← h.1, hes] at hh
      simp at hh
  have hp2 : (w1.setCell ⟨p, 0, none⟩ (.slice (some ⟨g, 0, none⟩) (l.length + 1) cap)).heap[p]? = some (.cells #[.slice (some ⟨g, 0, none⟩) (l.length + 1) cap, .map (some B)] 66 (0, 0)) := by
    have := Joins.block_setCell (i := 0) hp1 (.slice (some ⟨g, 0, none⟩) (l.length + 1) cap)
    simpa using this
  have hb2 : (w1.setCell ⟨p, 0, none⟩ (.slice (some ⟨g, 0, none⟩) (l.length + 1) cap)).heap[b0]? = some (.cells #[.int .i64 a, .int .i64 b] 53 (0, 0)) := (Below.heap_setCell w1 ⟨p, 0, none⟩ _ b0 (Ne.symm hpb)).trans hbx1
  have ht2 := ht1.setCell (a := ⟨p, 0, none⟩) (Ne.symm hpB) (.slice (some ⟨g, 0, none⟩) (l.length + 1) cap)
  obtain ⟨w5, hrun, ht5, hg5⟩ := (ht2.drew).store kG encG_inj Try.underlying64 (x := (a, b)) hk hn (by omega) (c := (l.length : Int) + 1) rfl
  have hp5 := (hg5.block p (lt_of_block (w := (w1.setCell ⟨p, 0, none⟩ (.slice (some ⟨g, 0, none⟩) (l.length + 1) cap)).drew) hp2) (by simpa using hpB)).trans hp2
  have hb5 := (hg5.block b0 (lt_of_block (w := (w1.setCell ⟨p, 0, none⟩ (.slice (some ⟨g, 0, none⟩) (l.length + 1) cap)).drew) hb2) (by simpa using Ne.symm hBb)).trans hb2
  refine ⟨w5, hrun, by unfold World.cell?; rw [hp2]; rfl, by unfold World.cell?; rw [hp2]; rfl, by unfold World.cell?; rw [hb2]; rfl, by unfold World.cell?; rw [hb2]; rfl, by unfold World.cell?; rw [hp5]; rfl, by unfold World.cell?; rw [hp5]; rfl, by unfold World.cell?; rw [hb5]; rfl, by unfold World.cell?; rw [hb5]; rfl, ?_⟩
  have r1 := (ownsRow_setCell_other ho1 (a := ⟨p, 0, none⟩) (by simpa [Value.ownBlock] using Ne.symm hgp) (.slice (some ⟨g, 0, none⟩) (l.length + 1) cap)).drew.kept hg5 (by simp [Value.ownBlock]; exact hgB)
  refine ⟨⟨_, B, hp5, hbp, hbB, by simpa [gcells] using r1, ht5⟩, ?_, fun top t1 t2 => ?_⟩
  rotate_left
  · have q2 : Chg w1 (w1.setCell ⟨p, 0, none⟩ (.slice (some ⟨g, 0, none⟩) (l.length + 1) cap)) base top := Chg.of_set hbp t1 _ _
    have q3 : Chg (w1.setCell ⟨p, 0, none⟩ (.slice (some ⟨g, 0, none⟩) (l.length + 1) cap)).drew w5 base top := Chg.of_grown hg5 (fun k hk => by cases hk; exact ⟨hbB, t2⟩)
    exact q2.trans ⟨q3.os, q3.tape, q3.output, q3.size, q3.block⟩
  exact (hb1.setCell (p := ⟨p, 0, none⟩) hbp _).drew.grown hg5 (Nat.le_trans hbp (Nat.le_of_lt (lt_of_block hp2))) (fun k h => by cases h; exact hbB)

set_option maxRecDepth 20000 in
set_option maxHeartbeats 1000000 in
theorem addG_frame (p base : Nat) (l : List (Int × Int)) (a b : Int) (w : World) (hl : l.length ≤ 200) (ha : (Lit.int .i64 a).wf = true) (hb : (Lit.int .i64 b).wf = true) (hn : num l (a, b) = 0) (hbw : base ≤ w.heap.size) (h : TwG w base p l) :
    Calls Try.prog 21 #[.pointer (some ⟨p, 0, none⟩), .agg #[.int .i64 a, .int .i64 b]] w fun e w' => e = .returned (.bool true) ∧ TwG w' base p (l ++ [(a, b)]) ∧ Below base w w' ∧ ∀ top, TopG w p top → Chg w w' base top := by
  have hbx : Below w.heap.size w (w.alloc (.cells #[.int .i64 a, .int .i64 b] 53)) := (Below.refl _ _).alloc (Nat.le_refl _) _
  have h1 := h.below hbx
  have H0 : Hid (TwG w base p l) := h
  clear h
  have hnum : Calls Try.prog 19 #[.pointer (some ⟨p, 0, none⟩), .agg #[.int .i64 a, .int .i64 b]] (w.alloc (.cells #[.int .i64 a, .int .i64 b] 53)) fun e w' => e = .returned (.int .i64 0) ∧ Below (w.alloc (.cells #[.int .i64 a, .int .i64 b] 53)).heap.size (w.alloc (.cells #[.int .i64 a, .int .i64 b] 53)) w' := by
    obtain ⟨iv, B, hp, hbp, hbB, ho, ht⟩ := h1
    have := numG_any p B l a b _ ha hb (lt_of_block hp) (by unfold World.cell?; rw [hp]; rfl) ht
    rwa [hn] at this
  have HN : Hid (num l (a, b) = 0) := hn
  have HBX : Hid (Below w.heap.size w (w.alloc (.cells #[.int .i64 a, .int .i64 b] 53))) := hbx
  clear h1 hn hbx
  obtain ⟨i0, hi, hz0, hz1, hz2⟩ := info_parts Try.infoSig
  go_enter Try.func21, Try.ntmps21
  go_wp2_with (first | (go_at_call 19; refine hnum.mono ?_; rintro e w2 ⟨rfl, hb2⟩))
  clear hnum
  have hbw2 : Below w.heap.size w w2 := HBX.out.trans (hb2.mono (by simp))
  obtain ⟨iv, B, hp0, hbp, hbB, ho0, ht0⟩ := H0.out
  have hp := (hbw2.block p (lt_of_block hp0)).trans hp0
  have ho := ho0.kept (grown_of_below hbw2) (by cases iv.ownBlock <;> simp)
  have ht := ht0.kept (grown_of_below hbw2) (by simp)
  have hnb : iv.ownBlock ≠ some w.heap.size := fun e => by have := (ho0.lt _ e).2; omega
  have HB2 : Hid (Below w.heap.size w w2) := hbw2
  have HP0 : Hid (w.heap[p]? = some (.cells #[iv, .map (some B)] 66 (0, 0))) := hp0
  clear hp0 ho0 ht0 hbw2
  have hpl : p < w2.heap.size := lt_of_block hp
  obtain ⟨ia, ic, hiv⟩ : ∃ ia ic, iv = .slice ia l.length ic := by
    rcases ho.2 with ⟨h1, h2⟩ | ⟨g, cap, cur, h1, _⟩
    · exact ⟨none, 0, by rw [h2]; exact h1⟩
    · exact ⟨_, _, h1⟩
  subst hiv
  have c0 : w2.cell? ⟨p, 0, none⟩ = some (.slice ia l.length ic) := by unfold World.cell?; rw [hp]; rfl
  have hbox : w2.heap[w.heap.size]? = some (.cells #[.int .i64 a, .int .i64 b] 53 (0, 0)) := (hb2.block w.heap.size (by simp)).trans (heap_alloc_new w _)
  have x0 : w2.cell? ⟨w.heap.size, 0, none⟩ = some (.int .i64 a) := by unfold World.cell?; rw [hbox]; rfl
  have x1 : w2.cell? ⟨w.heap.size, 1, none⟩ = some (.int .i64 b) := by unfold World.cell?; rw [hbox]; rfl
  have f0 : w2.frozen? ⟨p, 0, none⟩ = false := Joins.unfrozen_of_block hp 0
  have hpx : p ≠ w.heap.size := by rintro rfl; rw [hp] at hbox; simp at hbox
  have HP : Hid (w2.heap[p]? = some (.cells #[.slice ia l.length ic, .map (some B)] 66 (0, 0)) ∧ base ≤ p ∧ base ≤ B ∧ Tab 53 encG w2 B l ∧ w2.heap[w.heap.size]? = some (.cells #[.int .i64 a, .int .i64 b] 53 (0, 0)) ∧ Value.ownBlock (.slice ia l.length ic) ≠ some w.heap.size) := ⟨hp, hbp, hbB, ht, hbox, hnb⟩
  have HO : Hid (w2.ownsRow base 53 2 (.slice ia l.length ic) l.length (gcells l)) := ho
  clear hp ht hbox hnb ho
  have hlen : l.length + 1 ≤ maxLen := by unfold maxLen; omega
  have hbase2 : base ≤ w2.heap.size := Nat.le_trans hbw (by have := hb2.size; simp at this; omega)
  go_region_law
    ((refine step_append_lies _ (by rfl) _ _ _ (by rfl) base 53 i0 (.agg #[.int .i64 0, .int .i64 0]) 2 16 Try.underlying25 hi hz0 hz1 hz2 rfl (by omega) (.slice ia l.length ic) l.length (gcells l) (by rfl) (by first | exact (HO.out.alloc _).drew | exact HO.out.drew.alloc _) ⟨w2.heap.size, 0, none⟩ 1 1 [.int .i64 a, .int .i64 b] (by rfl) (by rfl) (news2 (by first | exact heap_alloc_new w2 _ | exact heap_alloc_new w2.drew _)) one2 (by omega) hlen (by omega) (by simp; omega) (w2.heap.size + 1) (by simp) ?_; intro g cap w3 ho3 hg3 hat hlt; obtain ⟨y0, y1, y2, y3, HY⟩ := addG_facts (x := (a, b)) HP.out.1 HP.out.2.1 HP.out.2.2.1 HO.out HP.out.2.2.2.1 HP.out.2.2.2.2.1 HP.out.2.2.2.2.2 ho3 hg3; have HCH : Hid (∀ top, (∀ k, Value.ownBlock (.slice ia l.length ic) = some k → k < top) → Chg w2 w3 base top) := fun top hk => chg_append hg3 (fun k e => ⟨(HO.out.lt k e).1, hk k e⟩); clear ho3 hg3 hat hlt))
  all_goals
    go_wp2
    obtain ⟨w5, hrun, q0, q1, q2, q3, m0, m1, m2, m3, HZ⟩ := addGF_end hl ha hb HN.out HP.out.2.1 HP.out.2.2.1 HY.out
    clear y0 y1 y2 y3
    go_region_held3 (fun w' => w'.cell? ⟨p, 0, none⟩ = some (.slice (some ⟨g, 0, none⟩) (l.length + 1) cap) ∧ w'.cell? ⟨p, 1, none⟩ = some (.map (some B)) ∧ w'.cell? ⟨w.heap.size, 0, none⟩ = some (.int .i64 a) ∧ w'.cell? ⟨w.heap.size, 1, none⟩ = some (.int .i64 b)) (go_keep)
      (first | (go_at_call 20; refine (countG_any p (l.length + 1) cap (some ⟨g, 0, none⟩) _ ?_).mono ?_; (simp [*]); rintro e w' ⟨rfl, rfl⟩))
    go_wp2
    go_ret
    exact ⟨rfl, HZ.out.1, (HB2.out.mono hbw).trans HZ.out.2.1, fun top htop => by
      obtain ⟨t1, t2, t3⟩ := htop _ _ HP0.out
      exact ((Chg.of_below HB2.out base top).trans (HCH.out top t3)).trans (HZ.out.2.2 top t1 t2)⟩

end Go.Proofs.Ytapicejadjeejaa

namespace Go.Proofs.Ytapicejadjeejaa
open Go.RowKit Go.Maps Go.WideMaps

/-- The program's book in block K, the signature behind it, the two tables, and the result under way. -/
structure Bs (w V : World) (K p q top : Nat) (ss : List ByteArray) (gs : List (Int × Int)) (a0 a1 : Value) (a b : Int) : Prop where
  r : Box4 w V a0 a1 27
  k : V.heap[K]? = some (.cells #[.pointer (some ⟨p, 0, none⟩), .pointer (some ⟨q, 0, none⟩)] 48 (0, 0))
  x : V.heap[K + 1]? = some (.cells #[.int .i64 a, .int .i64 b] 53 (0, 0))
  s : TwS V (w.heap.size + 2) p ss
  st : TopS V p top
  g : TwG V top q gs
  gt : TopG V q K
  tl : w.heap.size + 2 ≤ top ∧ top ≤ K

section
variable {w V V' w2 : World} {K p q top : Nat} {ss : List ByteArray} {gs gs' : List (Int × Int)} {a0 a1 : Value} {a b : Int} {n m : Nat}
theorem Bs.step (h : Bs w V K p q top ss gs a0 a1 a b) (hb : Below V.heap.size V V') : Bs w V' K p q top ss gs a0 a1 a b := by
  have hpl : p < V.heap.size := by obtain ⟨iv, B, hp, _⟩ := h.s; exact lt_of_block hp
  have hql : q < V.heap.size := by obtain ⟨iv, B, hp, _⟩ := h.g; exact lt_of_block hp
  exact ⟨(h.r.step hb).out, (keepb h.k hb).out, (keepb h.x hb).out, h.s.below hb, h.st.of_block (hb.block p hpl), h.g.below hb, h.gt.of_block (hb.block q hql), h.tl⟩
theorem Bs.start (hB : Box4 w w2 a0 a1 27) (hT : TwS w2 (w.heap.size + 2) p ss ∧ TopS w2 p top ∧ TwG w2 top q gs ∧ w.heap.size + 2 ≤ top) :
    Hid (Bs w ((w2.alloc (.cells #[.pointer (some ⟨p, 0, none⟩), .pointer (some ⟨q, 0, none⟩)] 48)).alloc (.cells #[.int .i64 a, .int .i64 b] 53)) w2.heap.size p q top ss gs a0 a1 a b) := by
  have hpl : p < w2.heap.size := by obtain ⟨iv, B, hp, _⟩ := hT.1; exact lt_of_block hp
  have hql : q < w2.heap.size := by obtain ⟨iv, B, hp, _⟩ := hT.2.2.1; exact lt_of_block hp
  have htq : top ≤ q := by obtain ⟨iv, B, hp, hb, _⟩ := hT.2.2.1; exact hb
  have hb : Below w2.heap.size w2 ((w2.alloc (.cells #[.pointer (some ⟨p, 0, none⟩), .pointer (some ⟨q, 0, none⟩)] 48)).alloc (.cells #[.int .i64 a, .int .i64 b] 53)) := below_box2 _ _
  exact ⟨(hB.step hb).out, block_at2, heap_at _ _ _ (by simp), hT.1.below hb, hT.2.1.of_block (hb.block p hpl), hT.2.2.1.below hb, hT.2.2.1.top.of_block (hb.block q hql), hT.2.2.2, by omega⟩
theorem Bs.bk (h : Bs w V K p q top ss gs a0 a1 a b) : Hid (Bk w V K p q ss gs a0 a1) := ⟨h.r, h.k, h.s, h.g.mono h.tl.1⟩
theorem Bs.add (h : Bs w V K p q top ss gs a0 a1 a b) (ht : TwG V' top q gs') (hc : Chg V V' top K) : Hid (Bk w V' K p q ss gs' a0 a1) := by
  have := h.tl
  exact ⟨⟨hc.keep h.r.1 (.inl (by omega)), h.r.2.1.trans (hc.below (by omega) h.r.2.1.size), hc.keep h.r.2.2 (.inl (by omega))⟩, hc.keep h.k (.inr (Nat.le_refl _)), h.s.chgT h.st hc, ht.mono h.tl.1⟩
theorem Bk.tailQ (h : Bk w V K p q ss gs a0 a1) (hn : ss.length = n) (hm : gs.length = m) :
    ∃ ia ic ja jc, Hid (Calls Try.prog 22 #[.agg #[.pointer (some ⟨p, 0, none⟩), .pointer (some ⟨q, 0, none⟩)]] V fun e w' => e = .returned (.agg #[.slice ia n ic, .slice ja m jc]) ∧ Below V.heap.size V w') ∧
      Hid (V.ownsRow (w.heap.size + 2) 9 1 (.slice ia n ic) n (ss.map Value.string) ∧ V.ownsRow (w.heap.size + 2) 53 2 (.slice ja m jc) m (gcells gs)) := by
  obtain ⟨ia, ic, hi, hip, HI⟩ := h.s.rows hn
  obtain ⟨ja, jc, hj, hjp, HJ⟩ := h.g.rows hm
  exact ⟨ia, ic, ja, jc, bookL_any p q n m ic jc ia ja V hip hjp hi hj, HI.out, HJ.out⟩
end

theorem memB_num {gs : List (Int × Int)} {x : Int × Int} : memB gs x = (num gs x != 0) := rfl

set_option maxRecDepth 20000 in
set_option maxHeartbeats 2000000 in
theorem iSignId_any (n m tc gc : Nat) (ta ga : Option Addr) (ss : List ByteArray) (gs : List (Int × Int)) (a b : Int) (w : World) (ha : (Lit.int .i64 a).wf = true) (hb : (Lit.int .i64 b).wf = true) (hf : Fine ss gs) (h : LedAt w ta n ga m ss gs) :
    Calls Try.prog 6 #[.agg #[.slice ta n tc, .slice ga m gc], .int .i64 a, .int .i64 b] w fun e w' => OutL w w' e (signR ss gs a b) := by
  obtain ⟨c, hc⟩ : ∃ c, c = flt ss gs := ⟨_, rfl⟩
  have HA : Hid ((Lit.int .i64 a).wf = true) := ha
  have HBW : Hid ((Lit.int .i64 b).wf = true) := hb
  have HN : Hid (ss.length = n) := h.s.1
  have HM : Hid (gs.length = m) := h.g.1
  clear ha hb
  by_cases hcz : c = 0
  · subst hcz
    have hrd := read4_ok (tc := tc) (gc := gc) hf h hc
    have hlen := flt_le hc
    rw [HN.out, HM.out] at hlen
    have h120 := hlen.2
    clear hlen h hf
    obtain ⟨ka, hka⟩ : ∃ ka, ka = inB a 1 999 := ⟨_, rfl⟩
    obtain ⟨kb, hkb⟩ : ∃ kb, kb = inB b 1 n := ⟨_, rfl⟩
    have hkey : ∀ v, Calls Try.prog 17 #[.int .i64 a] v fun e w' => e = .returned (.bool ka) ∧ w' = v := fun v => by rw [hka]; exact isKey_any a v
    have hhas : ∀ p v ia ic, v.cell? ⟨p, 0, none⟩ = some (.slice ia n ic) → Calls Try.prog 18 #[.pointer (some ⟨p, 0, none⟩), .int .i64 b] v fun e w' => e = .returned (.bool kb) ∧ w' = v := fun p v ia ic hv => by rw [hkb]; exact hasNumber_any p n ic ia b v hv
    have HHAS : Hid (∀ p v ia ic, v.cell? ⟨p, 0, none⟩ = some (.slice ia n ic) → Calls Try.prog 18 #[.pointer (some ⟨p, 0, none⟩), .int .i64 b] v fun e w' => e = .returned (.bool kb) ∧ w' = v) := hhas
    clear hhas
    by_cases hs : ka = false ∨ kb = false
    · have hr := signR_range (a := a) (b := b) HN.out hc (by rw [← hka, ← hkb]; exact hs)
      rw [hr]
      clear hc hr hka hkb
      have hs2 : ka = false ∨ ka = true ∧ kb = false := by rcases hs with h | h <;> cases ka <;> simp_all
      clear hs
      rcases hs2 with rfl | ⟨rfl, rfl⟩
      all_goals
        go_enter Try.func6, Try.ntmps6
        go_wp2_with (first
          | (go_at_call 16; refine hrd.mono ?_; rintro e w2 ⟨p, q, top, rfl, HB, HT⟩; obtain ⟨Ky0, Ky1, Ky2, Ky3, Ky4, Ky5, Ky6, Ky7⟩ := cells4 (HB.out.step (below_box (.cells #[.pointer (some ⟨p, 0, none⟩), .pointer (some ⟨q, 0, none⟩)] 48))).out.1; obtain ⟨ia, ic, hI, HSA⟩ := tw_items (o := .cells #[.pointer (some ⟨p, 0, none⟩), .pointer (some ⟨q, 0, none⟩)] 48) HN.out HT.out.1; have hhn := HHAS.out _ _ _ _ hI; clear hI)
          | (go_at_call 17; refine (hkey _).mono ?_; rintro e w' ⟨rfl, hw⟩; subst hw)
          | (go_at_call 18; refine hhn.mono ?_; rintro e w' ⟨rfl, hw⟩; subst hw))
        obtain ⟨s0, s1, s2, s3⟩ := four_set (HB.out.step (below_box (.cells #[.pointer (some ⟨p, 0, none⟩), .pointer (some ⟨q, 0, none⟩)] 48))).out.1 (.int .i64 3) (.int .i64 0) (.slice none 0 0) (.slice none 0 0)
        exact bodyPost_ret (v := .agg #[.int .i64 3, .int .i64 0, .slice none 0 0, .slice none 0 0]) (by simp [results, Try.results6, go_sem, s0, s1, s2, s3]) rfl (OutL.empty (below_res4 (HB.out.step (below_box _)).out.2.1 _ _ _ _))
    · obtain rfl : ka = true := by cases ka <;> simp_all
      obtain rfl : kb = true := by cases kb <;> simp_all
      obtain ⟨k, hk⟩ : ∃ k, k = num gs (a, b) := ⟨_, rfl⟩
      have HK : Hid (num gs (a, b) = k) := hk.symm
      by_cases hk0 : k = 0
      · have hmem : false = memB gs (a, b) := by rw [memB_num, ← hk, hk0]; rfl
        have HK1 : Hid (num gs (a, b) = 0) := by rw [← hk]; exact hk0
        subst hk0
        by_cases hful : 120 ≤ m
        · rw [signR_full HN.out HM.out hc hka.symm hkb.symm hmem hful]
          clear hc hk hmem hka hkb hs
          go_enter Try.func6, Try.ntmps6
          go_wp2_with (first
            | (go_at_call 16; refine hrd.mono ?_; rintro e w2 ⟨p, q, top, rfl, HB, HT⟩; obtain ⟨ia, ic, hI, HSA⟩ := tw_items (o := .cells #[.pointer (some ⟨p, 0, none⟩), .pointer (some ⟨q, 0, none⟩)] 48) HN.out HT.out.1; have hhn := HHAS.out _ _ _ _ hI; clear hI; have HS := Bs.start (a := a) (b := b) HB.out HT.out; obtain ⟨t0, t1⟩ := cells2 HS.out.k; obtain ⟨x0, x1⟩ := cells2 HS.out.x; have hnb := numG_tw HA.out HBW.out HS.out.g; rw [HK.out] at hnb)
            | (go_at_call 17; refine (hkey _).mono ?_; rintro e w' ⟨rfl, hw⟩; subst hw)
            | (go_at_call 18; refine hhn.mono ?_; rintro e w' ⟨rfl, hw⟩; subst hw)
            | (go_at_call 19; refine hnb.mono ?_; rintro e w3 ⟨rfl, hb3⟩; have HS3 : Hid (Bs w w3 w2.heap.size p q top ss gs (.slice ta n tc) (.slice ga m gc) a b) := HS.out.step hb3; clear t0 t1 x0 x1 hb3; obtain ⟨t0, t1⟩ := cells2 HS3.out.k; obtain ⟨x0, x1⟩ := cells2 HS3.out.x; obtain ⟨q0, q1, q2, q3, q4, q5, q6, q7⟩ := cells4 HS3.out.r.1; obtain ⟨ja, jc, hJ, _, _⟩ := HS3.out.g.rows HM.out; have hct := countG_any q m jc ja _ hJ; clear hJ)
            | (go_at_call 20; refine hct.mono ?_; rintro e w' ⟨rfl, hw⟩; have hw2 := hw.symm; subst hw2))
          obtain ⟨s0, s1, s2, s3⟩ := four_set HS3.out.r.1 (.int .i64 2) (.int .i64 0) (.slice none 0 0) (.slice none 0 0)
          exact bodyPost_ret (v := .agg #[.int .i64 2, .int .i64 0, .slice none 0 0, .slice none 0 0]) (by simp [results, Try.results6, go_sem, s0, s1, s2, s3]) rfl (OutL.empty (below_res4 HS3.out.r.2.1 _ _ _ _))
        · rw [signR_new HN.out HM.out hc hka.symm hkb.symm hmem hful]
          have hful' : (m : Int) < 120 := by omega
          have HSL : Hid (gs.length ≤ 200) := by show _ ≤ _; rw [HM.out]; omega
          have HE1 : Hid ((gs ++ [(a, b)]).length = m + 1) := by show _ = _; simp [HM.out]
          clear hc hk hmem hka hkb hs hful
          go_enter Try.func6, Try.ntmps6
          go_wp2_with (first
            | (go_at_call 16; refine hrd.mono ?_; rintro e w2 ⟨p, q, top, rfl, HB, HT⟩; obtain ⟨ia, ic, hI, HSA⟩ := tw_items (o := .cells #[.pointer (some ⟨p, 0, none⟩), .pointer (some ⟨q, 0, none⟩)] 48) HN.out HT.out.1; have hhn := HHAS.out _ _ _ _ hI; clear hI; have HS := Bs.start (a := a) (b := b) HB.out HT.out; obtain ⟨t0, t1⟩ := cells2 HS.out.k; obtain ⟨x0, x1⟩ := cells2 HS.out.x; have hnb := numG_tw HA.out HBW.out HS.out.g; rw [HK.out] at hnb)
            | (go_at_call 17; refine (hkey _).mono ?_; rintro e w' ⟨rfl, hw⟩; subst hw)
            | (go_at_call 18; refine hhn.mono ?_; rintro e w' ⟨rfl, hw⟩; subst hw)
            | (go_at_call 19; refine hnb.mono ?_; rintro e w3 ⟨rfl, hb3⟩; have HS3 : Hid (Bs w w3 w2.heap.size p q top ss gs (.slice ta n tc) (.slice ga m gc) a b) := HS.out.step hb3; clear t0 t1 x0 x1 hb3; obtain ⟨t0, t1⟩ := cells2 HS3.out.k; obtain ⟨x0, x1⟩ := cells2 HS3.out.x; obtain ⟨ja, jc, hJ, _, _⟩ := HS3.out.g.rows HM.out; have hct := countG_any q m jc ja _ hJ; clear hJ)
            | (go_at_call 20; refine hct.mono ?_; rintro e w' ⟨rfl, hw⟩; have hw2 := hw.symm; subst hw2)
            | (go_at_call 21; refine (addG_frame q top gs a b _ HSL.out HA.out HBW.out HK1.out (by have := HS3.out.tl; have := lt_of_block HS3.out.k; omega) HS3.out.g).mono ?_; rintro e w4 ⟨rfl, htw4, hb4, hch4⟩; have HBK : Hid (Bk w w4 w2.heap.size p q ss (gs ++ [(a, b)]) (.slice ta n tc) (.slice ga m gc)) := HS3.out.add htw4 (hch4 _ HS3.out.gt); clear htw4 hb4 hch4 t0 t1 x0 x1; obtain ⟨t0, t1⟩ := cells2 HBK.out.k; obtain ⟨ia2, ic2, ja2, jc2, HLD, HRW⟩ := HBK.out.tailQ HN.out HE1.out)
            | (go_at_call 22; refine HLD.out.mono ?_; rintro e w5 ⟨rfl, hb5⟩; obtain ⟨J0, J1, J2, J3, J4, J5, J6, J7⟩ := cells4 (HBK.out.r.step hb5).out.1))
          obtain ⟨s0, s1, s2, s3⟩ := four_set (HBK.out.r.step hb5).out.1 (.int .i64 0) (.int .i64 b) (.slice ia2 n ic2) (.slice ja2 (m + 1) jc2)
          exact bodyPost_ret (v := .agg #[.int .i64 0, .int .i64 b, .slice ia2 n ic2, .slice ja2 (m + 1) jc2]) (by simp [results, Try.results6, go_sem, s0, s1, s2, s3]) rfl (HBK.out.out HN.out HE1.out hb5 HRW.out b _ _ _ _)
      · have hmem : true = memB gs (a, b) := by rw [memB_num, ← hk]; simp [hk0]
        rw [signR_old HN.out hc hka.symm hkb.symm hmem]
        have hki : (k : Int) ≠ 0 := by omega
        have HK0 : Hid (¬ num gs (a, b) = 0) := by rw [← hk]; exact hk0
        clear hc hk hk0 hmem hka hkb hs
        go_enter Try.func6, Try.ntmps6
        go_wp2_with (first
          | (go_at_call 16; refine hrd.mono ?_; rintro e w2 ⟨p, q, top, rfl, HB, HT⟩; obtain ⟨ia, ic, hI, HSA⟩ := tw_items (o := .cells #[.pointer (some ⟨p, 0, none⟩), .pointer (some ⟨q, 0, none⟩)] 48) HN.out HT.out.1; have hhn := HHAS.out _ _ _ _ hI; clear hI; have HS := Bs.start (a := a) (b := b) HB.out HT.out; obtain ⟨t0, t1⟩ := cells2 HS.out.k; obtain ⟨x0, x1⟩ := cells2 HS.out.x; have hnb := numG_tw HA.out HBW.out HS.out.g; rw [HK.out] at hnb)
          | (go_at_call 17; refine (hkey _).mono ?_; rintro e w' ⟨rfl, hw⟩; subst hw)
          | (go_at_call 18; refine hhn.mono ?_; rintro e w' ⟨rfl, hw⟩; subst hw)
          | (go_at_call 19; refine hnb.mono ?_; rintro e w3 ⟨rfl, hb3⟩; have HS3 : Hid (Bs w w3 w2.heap.size p q top ss gs (.slice ta n tc) (.slice ga m gc) a b) := HS.out.step hb3; clear t0 t1 x0 x1 hb3; obtain ⟨t0, t1⟩ := cells2 HS3.out.k; obtain ⟨x0, x1⟩ := cells2 HS3.out.x)
          | (go_at_call 21; refine (addG_old q top gs a b _ HA.out HBW.out HK0.out HS3.out.g).mono ?_; rintro e w4 ⟨rfl, hb4⟩; have HBK : Hid (Bk w w4 w2.heap.size p q ss gs (.slice ta n tc) (.slice ga m gc)) := (HS3.out.step hb4).bk.out; clear hb4 t0 t1 x0 x1; obtain ⟨t0, t1⟩ := cells2 HBK.out.k; obtain ⟨ia2, ic2, ja2, jc2, HLD, HRW⟩ := HBK.out.tailQ HN.out HM.out)
          | (go_at_call 22; refine HLD.out.mono ?_; rintro e w5 ⟨rfl, hb5⟩; obtain ⟨J0, J1, J2, J3, J4, J5, J6, J7⟩ := cells4 (HBK.out.r.step hb5).out.1))
        obtain ⟨s0, s1, s2, s3⟩ := four_set (HBK.out.r.step hb5).out.1 (.int .i64 0) (.int .i64 b) (.slice ia2 n ic2) (.slice ja2 m jc2)
        exact bodyPost_ret (v := .agg #[.int .i64 0, .int .i64 b, .slice ia2 n ic2, .slice ja2 m jc2]) (by simp [results, Try.results6, go_sem, s0, s1, s2, s3]) rfl (HBK.out.out HN.out HM.out hb5 HRW.out b _ _ _ _)
  · have hrd := read4_bad (tc := tc) (gc := gc) hf h hc hcz
    rw [signR_bad hc hcz]
    clear hc h hf
    go_enter Try.func6, Try.ntmps6
    go_wp2_with (first
      | (go_at_call 16; refine hrd.mono ?_; rintro e w2 ⟨rfl, HB⟩; obtain ⟨Ky0, Ky1, Ky2, Ky3, Ky4, Ky5, Ky6, Ky7⟩ := cells4 (HB.out.step (below_box (.cells #[.pointer none, .pointer none] 48))).out.1))
    obtain ⟨s0, s1, s2, s3⟩ := four_set (HB.out.step (below_box (.cells #[.pointer none, .pointer none] 48))).out.1 (.int .i64 c) (.int .i64 0) (.slice none 0 0) (.slice none 0 0)
    exact bodyPost_ret (v := .agg #[.int .i64 c, .int .i64 0, .slice none 0 0, .slice none 0 0]) (by simp [results, Try.results6, go_sem, s0, s1, s2, s3]) rfl (OutL.empty (below_res4 (HB.out.step (below_box _)).out.2.1 _ _ _ _))

end Go.Proofs.Ytapicejadjeejaa
