/- A new signature is put into the table: the slice one longer, the map one more. -/
import Derived.Test.YtaopblgnmmhjfaaTwG
import Derived.Deep.RegionLaw
namespace Go.Proofs.Ytaopblgnmmhjfaa
open Go.RowKit Go.Maps Go.WideMaps
attribute [local go_sem ↓] Go.wp_at_zero Go.wp_at_succ

theorem news2 {W : World} {H : Nat} {a b : Int} {t : TypeId} (h : W.heap[H]? = some (.cells #[.int .i64 a, .int .i64 b] t (0, 0))) : ∀ j u, [Value.int .i64 a, .int .i64 b][j]? = some u → W.cell? ((⟨H, 0, none⟩ : Addr).add j) = some u := by
  intro j u hj
  match j, hj with
  | 0, hj => simp at hj; subst hj; simp [Addr.add, World.cell?, h]
  | 1, hj => simp at hj; subst hj; simp [Addr.add, World.cell?, h]
theorem one2 {a b : Int} : ∀ u ∈ [Value.int .i64 a, .int .i64 b], u.oneCell' = true := by
  intro u hu
  simp at hu
  rcases hu with rfl | rfl <;> rfl

/-- What is known of the world behind the append. -/
theorem addG_facts {w w1 : World} {base p B g cap b0 : Nat} {ia : Option Addr} {ic : Nat} {l : List (Int × Int)} {x : Int × Int} {o : Obj} (hp : w.heap[p]? = some (.cells #[.slice ia l.length ic, .map (some B)] 122 (0, 0))) (hbp : base ≤ p) (hbB : base ≤ B)
    (ho : w.ownsRow base 115 2 (.slice ia l.length ic) l.length (gcells l)) (ht : Tab 115 encG w B l) (hbox : w.heap[b0]? = some (.cells #[.int .i64 x.1, .int .i64 x.2] 115 (0, 0))) (hnb : Value.ownBlock (.slice ia l.length ic) ≠ some b0)
    (ho1 : w1.ownsRow base 115 2 (.slice (some ⟨g, 0, none⟩) (l.length + 1) cap) (l.length + 1) (gcells l ++ [.int .i64 x.1, .int .i64 x.2])) (hg1 : (w.alloc o).drew.grownBy w1 (Value.ownBlock (.slice ia l.length ic))) :
    w1.cell? ⟨p, 0, none⟩ = some (.slice ia l.length ic) ∧ w1.frozen? ⟨p, 0, none⟩ = false ∧ w1.cell? ⟨b0, 0, none⟩ = some (.int .i64 x.1) ∧ w1.cell? ⟨b0, 1, none⟩ = some (.int .i64 x.2) ∧
      Hid (w1.heap[p]? = some (.cells #[.slice ia l.length ic, .map (some B)] 122 (0, 0)) ∧ p ≠ g ∧ Tab 115 encG w1 B l ∧ p ≠ B ∧ Below base w w1 ∧ w1.heap[b0]? = some (.cells #[.int .i64 x.1, .int .i64 x.2] 115 (0, 0)) ∧
        w1.ownsRow base 115 2 (.slice (some ⟨g, 0, none⟩) (l.length + 1) cap) (l.length + 1) (gcells l ++ [.int .i64 x.1, .int .i64 x.2])) := by
  have hg2 : (w.alloc o).grownBy w1 (Value.ownBlock (.slice ia l.length ic)) := ⟨hg1.os, hg1.tape, hg1.output, hg1.size, hg1.block⟩
  obtain ⟨n1, n2, hp1, hgp, ht1, hpB, hb1⟩ := addG_mid hp hbp hbB ho ht ho1 hg2
  have hbl := lt_of_block hbox
  have hbx1 : w1.heap[b0]? = some (.cells #[.int .i64 x.1, .int .i64 x.2] 115 (0, 0)) := (hg2.block b0 (by simp; omega) (Ne.symm hnb)).trans ((Below.heap_alloc w _ b0 hbl).trans hbox)
  exact ⟨by unfold World.cell?; rw [hp1]; rfl, Joins.unfrozen_of_block hp1 0, by unfold World.cell?; rw [hbx1]; rfl, by unfold World.cell?; rw [hbx1]; rfl, hp1, hgp, ht1, hpB, hb1, hbx1, ho1⟩

/-- From the store into the field to the store into the map. -/
theorem addG_end {w w1 : World} {base p B g cap b0 ic : Nat} {ia : Option Addr} {l : List (Int × Int)} {a b : Int} (hl : l.length ≤ 200) (ha : (Lit.int .i64 a).wf = true) (hb : (Lit.int .i64 b).wf = true) (hn : num l (a, b) = 0) (hbp : base ≤ p) (hbB : base ≤ B)
    (h : w1.heap[p]? = some (.cells #[.slice ia l.length ic, .map (some B)] 122 (0, 0)) ∧ p ≠ g ∧ Tab 115 encG w1 B l ∧ p ≠ B ∧ Below base w w1 ∧ w1.heap[b0]? = some (.cells #[.int .i64 a, .int .i64 b] 115 (0, 0)) ∧
        w1.ownsRow base 115 2 (.slice (some ⟨g, 0, none⟩) (l.length + 1) cap) (l.length + 1) (gcells l ++ [.int .i64 a, .int .i64 b])) :
    ∃ w5, (Instr.mapUpdate 120 (.map (some B)) (.agg #[.int .i64 a, .int .i64 b]) (.int .i64 ((l.length : Int) + 1))).run Try.prog (w1.setCell ⟨p, 0, none⟩ (.slice (some ⟨g, 0, none⟩) (l.length + 1) cap)).drew = .ok () w5 ∧
      (w1.setCell ⟨p, 0, none⟩ (.slice (some ⟨g, 0, none⟩) (l.length + 1) cap)).cell? ⟨p, 0, none⟩ = some (.slice (some ⟨g, 0, none⟩) (l.length + 1) cap) ∧
      (w1.setCell ⟨p, 0, none⟩ (.slice (some ⟨g, 0, none⟩) (l.length + 1) cap)).cell? ⟨p, 1, none⟩ = some (.map (some B)) ∧
      (w1.setCell ⟨p, 0, none⟩ (.slice (some ⟨g, 0, none⟩) (l.length + 1) cap)).cell? ⟨b0, 0, none⟩ = some (.int .i64 a) ∧
      (w1.setCell ⟨p, 0, none⟩ (.slice (some ⟨g, 0, none⟩) (l.length + 1) cap)).cell? ⟨b0, 1, none⟩ = some (.int .i64 b) ∧
      w5.cell? ⟨p, 0, none⟩ = some (.slice (some ⟨g, 0, none⟩) (l.length + 1) cap) ∧ w5.cell? ⟨p, 1, none⟩ = some (.map (some B)) ∧ w5.cell? ⟨b0, 0, none⟩ = some (.int .i64 a) ∧ w5.cell? ⟨b0, 1, none⟩ = some (.int .i64 b) ∧
      Hid (TwG w5 base p (l ++ [(a, b)]) ∧ Below base w w5) := by
  obtain ⟨hp1, hgp, ht1, hpB, hb1, hbx1, ho1⟩ := h
  obtain ⟨kl, hk⟩ := keyG ha hb
  have hpb : p ≠ b0 := by rintro rfl; rw [hp1] at hbx1; simp at hbx1
  have hBb : B ≠ b0 := by
    rintro rfl
    obtain ⟨D, ⟨es, ck, hes, _⟩, _⟩ := ht1
    rw [hes] at hbx1; simp at hbx1
  have hgB : g ≠ B := by
    rintro rfl
    obtain ⟨D, ⟨es, ck, hes, _⟩, _⟩ := ht1
    rcases ho1.2 with ⟨h, _⟩ | ⟨g', c', cur, h, _, hh, _⟩
    · cases h
    · simp at h
      rw [← h.1, hes] at hh
      simp at hh
  have hp2 : (w1.setCell ⟨p, 0, none⟩ (.slice (some ⟨g, 0, none⟩) (l.length + 1) cap)).heap[p]? = some (.cells #[.slice (some ⟨g, 0, none⟩) (l.length + 1) cap, .map (some B)] 122 (0, 0)) := by
    have := Joins.block_setCell (i := 0) hp1 (.slice (some ⟨g, 0, none⟩) (l.length + 1) cap)
    simpa using this
  have hb2 : (w1.setCell ⟨p, 0, none⟩ (.slice (some ⟨g, 0, none⟩) (l.length + 1) cap)).heap[b0]? = some (.cells #[.int .i64 a, .int .i64 b] 115 (0, 0)) := (Below.heap_setCell w1 ⟨p, 0, none⟩ _ b0 (Ne.symm hpb)).trans hbx1
  have ht2 := ht1.setCell (a := ⟨p, 0, none⟩) (Ne.symm hpB) (.slice (some ⟨g, 0, none⟩) (l.length + 1) cap)
  obtain ⟨w5, hrun, ht5, hg5⟩ := (ht2.drew).store kG encG_inj Try.underlying120 (x := (a, b)) hk hn (by omega) (c := (l.length : Int) + 1) rfl
  have hp5 := (hg5.block p (lt_of_block (w := (w1.setCell ⟨p, 0, none⟩ (.slice (some ⟨g, 0, none⟩) (l.length + 1) cap)).drew) hp2) (by simpa using hpB)).trans hp2
  have hb5 := (hg5.block b0 (lt_of_block (w := (w1.setCell ⟨p, 0, none⟩ (.slice (some ⟨g, 0, none⟩) (l.length + 1) cap)).drew) hb2) (by simpa using Ne.symm hBb)).trans hb2
  refine ⟨w5, hrun, by unfold World.cell?; rw [hp2]; rfl, by unfold World.cell?; rw [hp2]; rfl, by unfold World.cell?; rw [hb2]; rfl, by unfold World.cell?; rw [hb2]; rfl, by unfold World.cell?; rw [hp5]; rfl, by unfold World.cell?; rw [hp5]; rfl, by unfold World.cell?; rw [hb5]; rfl, by unfold World.cell?; rw [hb5]; rfl, ?_⟩
  have r1 := (ownsRow_setCell_other ho1 (a := ⟨p, 0, none⟩) (by simpa [Value.ownBlock] using Ne.symm hgp) (.slice (some ⟨g, 0, none⟩) (l.length + 1) cap)).drew.kept hg5 (by simp [Value.ownBlock]; exact hgB)
  refine ⟨⟨_, B, hp5, hbp, hbB, by simpa [gcells] using r1, ht5⟩, ?_⟩
  exact (hb1.setCell (p := ⟨p, 0, none⟩) hbp _).drew.grown hg5 (Nat.le_trans hbp (Nat.le_of_lt (lt_of_block hp2))) (fun k h => by cases h; exact hbB)

set_option maxRecDepth 20000 in
set_option maxHeartbeats 1000000 in
theorem addG_new (p base : Nat) (l : List (Int × Int)) (a b : Int) (w : World) (hl : l.length ≤ 200) (ha : (Lit.int .i64 a).wf = true) (hb : (Lit.int .i64 b).wf = true) (hn : num l (a, b) = 0) (hbw : base ≤ w.heap.size) (h : TwG w base p l) :
    Calls Try.prog 88 #[.pointer (some ⟨p, 0, none⟩), .agg #[.int .i64 a, .int .i64 b]] w fun e w' => e = .returned (.bool true) ∧ TwG w' base p (l ++ [(a, b)]) ∧ Below base w w' := by
  have hbx : Below w.heap.size w (w.alloc (.cells #[.int .i64 a, .int .i64 b] 115)) := (Below.refl _ _).alloc (Nat.le_refl _) _
  have h1 := h.below hbx
  have H0 : Hid (TwG w base p l) := h
  clear h
  have hnum : Calls Try.prog 86 #[.pointer (some ⟨p, 0, none⟩), .agg #[.int .i64 a, .int .i64 b]] (w.alloc (.cells #[.int .i64 a, .int .i64 b] 115)) fun e w' => e = .returned (.int .i64 0) ∧ Below (w.alloc (.cells #[.int .i64 a, .int .i64 b] 115)).heap.size (w.alloc (.cells #[.int .i64 a, .int .i64 b] 115)) w' := by
    obtain ⟨iv, B, hp, hbp, hbB, ho, ht⟩ := h1
    have := numG_any p B l a b _ ha hb (lt_of_block hp) (by unfold World.cell?; rw [hp]; rfl) ht
    rwa [hn] at this
  have HN : Hid (num l (a, b) = 0) := hn
  have HBX : Hid (Below w.heap.size w (w.alloc (.cells #[.int .i64 a, .int .i64 b] 115))) := hbx
  clear h1 hn hbx
  obtain ⟨i0, hi, hz0, hz1, hz2⟩ := info_parts Try.infoSig
  go_enter Try.func88, Try.ntmps88
  go_wp2_with (first | (go_at_call 86; refine hnum.mono ?_; rintro e w2 ⟨rfl, hb2⟩))
  clear hnum
  have hbw2 : Below w.heap.size w w2 := HBX.out.trans (hb2.mono (by simp))
  obtain ⟨iv, B, hp0, hbp, hbB, ho0, ht0⟩ := H0.out
  have hp := (hbw2.block p (lt_of_block hp0)).trans hp0
  have ho := ho0.kept (grown_of_below hbw2) (by cases iv.ownBlock <;> simp)
  have ht := ht0.kept (grown_of_below hbw2) (by simp)
  have hnb : iv.ownBlock ≠ some w.heap.size := fun e => by have := (ho0.lt _ e).2; omega
  have HB2 : Hid (Below w.heap.size w w2) := hbw2
  clear hp0 ho0 ht0 hbw2
  have hpl : p < w2.heap.size := lt_of_block hp
  obtain ⟨ia, ic, hiv⟩ : ∃ ia ic, iv = .slice ia l.length ic := by
    rcases ho.2 with ⟨h1, h2⟩ | ⟨g, cap, cur, h1, _⟩
    · exact ⟨none, 0, by rw [h2]; exact h1⟩
    · exact ⟨_, _, h1⟩
  subst hiv
  have c0 : w2.cell? ⟨p, 0, none⟩ = some (.slice ia l.length ic) := by unfold World.cell?; rw [hp]; rfl
  have hbox : w2.heap[w.heap.size]? = some (.cells #[.int .i64 a, .int .i64 b] 115 (0, 0)) := (hb2.block w.heap.size (by simp)).trans (heap_alloc_new w _)
  have x0 : w2.cell? ⟨w.heap.size, 0, none⟩ = some (.int .i64 a) := by unfold World.cell?; rw [hbox]; rfl
  have x1 : w2.cell? ⟨w.heap.size, 1, none⟩ = some (.int .i64 b) := by unfold World.cell?; rw [hbox]; rfl
  have f0 : w2.frozen? ⟨p, 0, none⟩ = false := Joins.unfrozen_of_block hp 0
  have hpx : p ≠ w.heap.size := by rintro rfl; rw [hp] at hbox; simp at hbox
  have HP : Hid (w2.heap[p]? = some (.cells #[.slice ia l.length ic, .map (some B)] 122 (0, 0)) ∧ base ≤ p ∧ base ≤ B ∧ Tab 115 encG w2 B l ∧ w2.heap[w.heap.size]? = some (.cells #[.int .i64 a, .int .i64 b] 115 (0, 0)) ∧ Value.ownBlock (.slice ia l.length ic) ≠ some w.heap.size) := ⟨hp, hbp, hbB, ht, hbox, hnb⟩
  have HO : Hid (w2.ownsRow base 115 2 (.slice ia l.length ic) l.length (gcells l)) := ho
  clear hp ht hbox hnb ho
  have hlen : l.length + 1 ≤ maxLen := by unfold maxLen; omega
  have hbase2 : base ≤ w2.heap.size := Nat.le_trans hbw (by have := hb2.size; simp at this; omega)
  go_region_law
    ((refine step_append_lies _ (by rfl) _ _ _ (by rfl) base 115 i0 (.agg #[.int .i64 0, .int .i64 0]) 2 16 Try.underlying25 hi hz0 hz1 hz2 rfl (by omega) (.slice ia l.length ic) l.length (gcells l) (by rfl) (by first | exact (HO.out.alloc _).drew | exact HO.out.drew.alloc _) ⟨w2.heap.size, 0, none⟩ 1 1 [.int .i64 a, .int .i64 b] (by rfl) (by rfl) (news2 (by first | exact heap_alloc_new w2 _ | exact heap_alloc_new w2.drew _)) one2 (by omega) hlen (by omega) (by simp; omega) (w2.heap.size + 1) (by simp) ?_; intro g cap w3 ho3 hg3 hat hlt; obtain ⟨y0, y1, y2, y3, HY⟩ := addG_facts (x := (a, b)) HP.out.1 HP.out.2.1 HP.out.2.2.1 HO.out HP.out.2.2.2.1 HP.out.2.2.2.2.1 HP.out.2.2.2.2.2 ho3 hg3; clear ho3 hg3 hat hlt))
  all_goals
    go_wp2
    obtain ⟨w5, hrun, q0, q1, q2, q3, m0, m1, m2, m3, HZ⟩ := addG_end hl ha hb HN.out HP.out.2.1 HP.out.2.2.1 HY.out
    clear y0 y1 y2 y3
    go_region_held3 (fun w' => w'.cell? ⟨p, 0, none⟩ = some (.slice (some ⟨g, 0, none⟩) (l.length + 1) cap) ∧ w'.cell? ⟨p, 1, none⟩ = some (.map (some B)) ∧ w'.cell? ⟨w.heap.size, 0, none⟩ = some (.int .i64 a) ∧ w'.cell? ⟨w.heap.size, 1, none⟩ = some (.int .i64 b)) (go_keep)
      (first | (go_at_call 87; refine (countG_any p (l.length + 1) cap (some ⟨g, 0, none⟩) _ ?_).mono ?_; (simp [*]); rintro e w' ⟨rfl, rfl⟩))
    go_wp2
    go_ret
    exact ⟨rfl, HZ.out.1, (HB2.out.mono hbw).trans HZ.out.2⟩

end Go.Proofs.Ytaopblgnmmhjfaa
