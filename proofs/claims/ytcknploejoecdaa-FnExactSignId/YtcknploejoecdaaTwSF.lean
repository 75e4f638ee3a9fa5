/- A new text in the table, and what of other memory stays. -/
import Derived.Test.YtcknploejoecdaaNt
namespace Go.Proofs.Ytcknploejoecdaa
open Go.RowKit Go.Maps Go.WideMaps

theorem Chg.of_set {w : World} {lo hi b : Nat} (h1 : lo ≤ b) (h2 : b < hi) (i : Nat) (v : Value) : Chg w (w.setCell ⟨b, i, none⟩ v) lo hi :=
  ⟨rfl, rfl, rfl, by simp, fun k _ ho => Below.heap_setCell w ⟨b, i, none⟩ v k (show k ≠ b by omega)⟩

set_option maxRecDepth 20000 in
set_option maxHeartbeats 400000 in
theorem addS_frame (p base : Nat) (l : List ByteArray) (x : ByteArray) (w : World) (hl : l.length ≤ 100) (hx : x.size ≤ maxLen) (hn : num l x = 0) (h : TwS w base p l) :
    Calls Try.prog 62 #[.pointer (some ⟨p, 0, none⟩), .string x] w fun e w' => e = .returned (.bool true) ∧ TwS w' base p (l ++ [x]) ∧ Below base w w' ∧ ∀ top, TopS w p top → Chg w w' base top := by
  obtain ⟨iv, B, hp, hbp, hbB, ho, ht⟩ := h
  obtain ⟨i0, hi, hz0, hz1, hz2⟩ := info_parts Try.infoStr
  have hpl : p < w.heap.size := lt_of_block hp
  have c0 : w.cell? ⟨p, 0, none⟩ = some iv := by simp [World.cell?, hp]
  have c1 : w.cell? ⟨p, 1, none⟩ = some (.map (some B)) := by simp [World.cell?, hp]
  obtain ⟨ia, ic, rfl⟩ : ∃ ia ic, iv = .slice ia l.length ic := by
    rcases ho.2 with ⟨h1, h2⟩ | ⟨g, cap, cur, h1, _⟩
    · exact ⟨none, 0, by rw [h2]; exact h1⟩
    · exact ⟨_, _, h1⟩
  have HN : Hid (num l x = 0) := hn
  have hnum := numS_any p B l x w hx c1 ht
  rw [hn] at hnum
  clear hn
  go_enter Try.func62, Try.ntmps62
  go_wp2_with (first
    | (go_at_call 60; refine hnum.mono ?_; rintro e w' ⟨rfl, hw⟩; have hw2 := hw.symm; subst hw2)
    | (at_builtin; go_must (refine wpList_append_lies _ (by rfl) _ _ 24 (by rfl) base 9 i0 (.string ByteArray.empty) 1 16 Try.underlying24 hi hz0 hz1 hz2 rfl (by omega) (.slice ia l.length ic) l.length (l.map Value.string) (by rfl) (ho.alloc _) ⟨w.heap.size, 0, none⟩ 1 1 [.string x] (by rfl) (by rfl) ?c1 ?c2 (by omega) ?c3 ?c4 ?c5 (w.heap.size + 1) ?c6 ?_)))
  case c1 =>
    intro j u hj
    match j, hj with
    | 0, hj => simp at hj; subst hj; simp [Addr.add]
  case c2 => intro u hu; simp at hu; subst hu; rfl
  case c3 => unfold maxLen; omega
  case c4 => omega
  case c5 => simp; omega
  case c6 => simp
  intro g cap w1 ho1 hg1 hat hlt
  obtain ⟨n1, n2, hp1, hgp, ht1, hpB, hb1⟩ := addS_mid hp hbp hbB ho ht ho1 hg1
  have k0 : w1.cell? ⟨p, 0, none⟩ = some (.slice ia l.length ic) := by simp [World.cell?, hp1]
  have k1 : w1.cell? ⟨p, 1, none⟩ = some (.map (some B)) := by simp [World.cell?, hp1]
  have f0 : w1.frozen? ⟨p, 0, none⟩ = false := Joins.unfrozen_of_block hp1 0
  have ht2 := ht1.setCell (a := ⟨p, 0, none⟩) (Ne.symm hpB) (.slice (some ⟨g, 0, none⟩) (l.length + 1) cap)
  have hp2 : (w1.setCell ⟨p, 0, none⟩ (.slice (some ⟨g, 0, none⟩) (l.length + 1) cap)).heap[p]? = some (.cells #[.slice (some ⟨g, 0, none⟩) (l.length + 1) cap, .map (some B)] 138 (0, 0)) := by
    have := Joins.block_setCell (i := 0) hp1 (.slice (some ⟨g, 0, none⟩) (l.length + 1) cap)
    simpa using this
  have j0 : (w1.setCell ⟨p, 0, none⟩ (.slice (some ⟨g, 0, none⟩) (l.length + 1) cap)).cell? ⟨p, 0, none⟩ = some (.slice (some ⟨g, 0, none⟩) (l.length + 1) cap) := by unfold World.cell?; rw [hp2]; rfl
  have j1 : (w1.setCell ⟨p, 0, none⟩ (.slice (some ⟨g, 0, none⟩) (l.length + 1) cap)).cell? ⟨p, 1, none⟩ = some (.map (some B)) := by unfold World.cell?; rw [hp2]; rfl
  have hkey := keyOf_string_mk (P := Try.prog) Try.underlying9 hx
  obtain ⟨w3, hrun, ht3, hg3⟩ := (ht2.drew).store kS encS_inj Try.underlying136 (x := x) hkey HN.out (by omega) (c := (l.length : Int) + 1) rfl
  unfold encS at hrun
  have hp3 : w3.heap[p]? = some (.cells #[.slice (some ⟨g, 0, none⟩) (l.length + 1) cap, .map (some B)] 138 (0, 0)) := (hg3.block p (lt_of_block (w := (w1.setCell ⟨p, 0, none⟩ (.slice (some ⟨g, 0, none⟩) (l.length + 1) cap)).drew) hp2) (by simpa using hpB)).trans hp2
  have m0 : w3.cell? ⟨p, 0, none⟩ = some (.slice (some ⟨g, 0, none⟩) (l.length + 1) cap) := by unfold World.cell?; rw [hp3]; rfl
  have m1 : w3.cell? ⟨p, 1, none⟩ = some (.map (some B)) := by unfold World.cell?; rw [hp3]; rfl
  have HT3 : Hid (TwS w3 base p (l ++ [x]) ∧ Below base w w3 ∧ ∀ top, TopS w p top → Chg w w3 base top) := by
    have hgB : g ≠ B := by
      rintro rfl
      obtain ⟨D, ⟨es, ck, hes, _⟩, _⟩ := ht1
      rcases ho1.2 with ⟨h, _⟩ | ⟨g', c', cur, h, _, hh, _⟩
      · cases h
      · simp at h
        rw [← h.1, hes] at hh
        simp at hh
    have r1 := (ownsRow_setCell_other ho1 (a := ⟨p, 0, none⟩) (by simpa [Value.ownBlock] using Ne.symm hgp) (.slice (some ⟨g, 0, none⟩) (l.length + 1) cap)).drew.kept hg3 (by simp [Value.ownBlock]; exact hgB)
    refine ⟨⟨_, B, hp3, hbp, hbB, by simpa using r1, ht3⟩, ?_, fun top htop => ?_⟩
    rotate_left
    · obtain ⟨t1, t2, t3⟩ := htop _ _ hp
      have q1 : Chg (w.alloc (.cells #[.string x] 9)) w1 base top := Chg.of_grown hg1 (fun k hk => ⟨(ho.lt k hk).1, t3 k hk⟩)
      have q2 : Chg w1 (w1.setCell ⟨p, 0, none⟩ (.slice (some ⟨g, 0, none⟩) (l.length + 1) cap)) base top := Chg.of_set hbp t1 _ _
      have q3 : Chg (w1.setCell ⟨p, 0, none⟩ (.slice (some ⟨g, 0, none⟩) (l.length + 1) cap)).drew w3 base top := Chg.of_grown hg3 (fun k hk => by cases hk; exact ⟨hbB, t2⟩)
      exact (((Chg.of_below (below_box _) base top).trans q1).trans q2).trans ⟨q3.os, q3.tape, q3.output, q3.size, q3.block⟩
    exact (hb1.setCell (p := ⟨p, 0, none⟩) hbp _).drew.grown hg3 (Nat.le_trans hbp (Nat.le_of_lt (lt_of_block hp2))) (fun k h => by cases h; exact hbB)
  clear ht2 ht1 ht3 hg3 hp3 hp2
  have HO1 : Hid (w1.ownsRow base 9 1 (.slice (some ⟨g, 0, none⟩) (l.length + 1) cap) (l.length + 1) (l.map Value.string ++ [.string x])) := ho1
  clear ho1 hg1 hat ho ht hnum hkey hi hz0 hz1 hz2
  go_wp2
  go_region_held3 (fun w' => w'.cell? ⟨p, 0, none⟩ = some (.slice (some ⟨g, 0, none⟩) (l.length + 1) cap) ∧ w'.cell? ⟨p, 1, none⟩ = some (.map (some B))) (go_keep)
    (first | (go_at_call 61; refine (countS_any p (l.length + 1) cap (some ⟨g, 0, none⟩) _ ?_).mono ?_; (simp [*]); rintro e w' ⟨rfl, rfl⟩))
  go_wp2
  go_ret
  exact ⟨rfl, HT3.out⟩


theorem TwG.chg {w w' : World} {base p lo hi : Nat} {l : List (Int × Int)} (h : TwG w base p l) (hc : Chg w w' lo hi) (hh : hi ≤ base) : TwG w' base p l := by
  obtain ⟨iv, B, hp, hbp, hbB, ho, ht⟩ := h
  refine ⟨iv, B, hc.keep hp (.inr (by omega)), hbp, hbB, hc.row ho (fun k hk => .inr (by have := (ho.lt k hk).1; omega)), ?_⟩
  obtain ⟨D, hD, hat⟩ := ht
  obtain ⟨es, ck, hes, rest⟩ := hD
  exact ⟨D, ⟨es, ck, (hc.block B (lt_of_block hes) (.inr (by omega))).trans hes, rest⟩, hat⟩

/-- The tables' own slices. -/
theorem TwS.rows {w : World} {base p : Nat} {l : List ByteArray} {n : Nat} (hn : l.length = n) (h : TwS w base p l) : ∃ a cap, w.cell? ⟨p, 0, none⟩ = some (.slice a n cap) ∧ p < w.heap.size ∧ Hid (w.ownsRow base 9 1 (.slice a n cap) n (l.map Value.string)) := by
  subst hn
  obtain ⟨iv, B, hp, hbp, hbB, ho, ht⟩ := h
  have hc : w.cell? ⟨p, 0, none⟩ = some iv := by unfold World.cell?; rw [hp]; rfl
  rcases id ho.2 with ⟨h1, h2⟩ | ⟨g, cap, cur, h1, _⟩
  · exact ⟨none, 0, by rw [hc, h1, h2], lt_of_block hp, by rw [h2]; subst h1; rw [h2] at ho; exact ho⟩
  · subst h1
    exact ⟨_, _, hc, lt_of_block hp, ho⟩
theorem TwG.rows {w : World} {base p : Nat} {l : List (Int × Int)} {n : Nat} (hn : l.length = n) (h : TwG w base p l) : ∃ a cap, w.cell? ⟨p, 0, none⟩ = some (.slice a n cap) ∧ p < w.heap.size ∧ Hid (w.ownsRow base 100 2 (.slice a n cap) n (gcells l)) := by
  subst hn
  obtain ⟨iv, B, hp, hbp, hbB, ho, ht⟩ := h
  have hc : w.cell? ⟨p, 0, none⟩ = some iv := by unfold World.cell?; rw [hp]; rfl
  rcases id ho.2 with ⟨h1, h2⟩ | ⟨g, cap, cur, h1, _⟩
  · exact ⟨none, 0, by rw [hc, h1, h2], lt_of_block hp, by rw [h2]; subst h1; rw [h2] at ho; exact ho⟩
  · subst h1
    exact ⟨_, _, hc, lt_of_block hp, ho⟩

set_option maxHeartbeats 400000 in
theorem bookL_any (p q n m ic jc : Nat) (ia ja : Option Addr) (w : World) (hpl : p < w.heap.size) (hql : q < w.heap.size) (hp : w.cell? ⟨p, 0, none⟩ = some (.slice ia n ic)) (hq : w.cell? ⟨q, 0, none⟩ = some (.slice ja m jc)) :
    Calls Try.prog 63 #[.agg #[.pointer (some ⟨p, 0, none⟩), .pointer (some ⟨q, 0, none⟩)]] w fun e w' => e = .returned (.agg #[.slice ia n ic, .slice ja m jc]) ∧ Below w.heap.size w w' := by
  have hp2 : ∀ o o', ((w.alloc o).alloc o').cell? ⟨p, 0, none⟩ = some (.slice ia n ic) := fun o o' => ((below_box2 o o').cell (p := ⟨p, 0, none⟩) hpl).trans hp
  have hq2 : ∀ o o', ((w.alloc o).alloc o').cell? ⟨q, 0, none⟩ = some (.slice ja m jc) := fun o o' => ((below_box2 o o').cell (p := ⟨q, 0, none⟩) hql).trans hq
  have hnp : p ≠ w.heap.size + 1 := by omega
  have hnq : q ≠ w.heap.size + 1 := by omega
  go_enter Try.func63, Try.ntmps63
  go_wp2
  go_region_held3 (fun w' => w'.cell? ⟨p, 0, none⟩ = some (.slice ia n ic) ∧ w'.cell? ⟨q, 0, none⟩ = some (.slice ja m jc) ∧ w'.cell? ⟨w.heap.size, 0, none⟩ = some (.pointer (some ⟨p, 0, none⟩)) ∧ w'.cell? ⟨w.heap.size, 1, none⟩ = some (.pointer (some ⟨q, 0, none⟩))) (go_keep) (fail)
  go_wp2
  refine bodyPost_ret (v := .agg #[.slice ia n ic, .slice ja m jc]) (by simp [results, Try.results63, go_sem]) rfl ⟨rfl, ?_⟩
  exact (below_box2 _ _).drew

end Go.Proofs.Ytcknploejoecdaa
