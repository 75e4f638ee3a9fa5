/- A new text in the table, and what of other memory stays. What the program's NoteText answers. -/
import Derived.Test.YtbpfbnmnpilgkaaCp
namespace Go.Proofs.Ytbpfbnmnpilgkaa
open Go.RowKit Go.Maps Go.WideMaps

theorem Chg.of_set {w : World} {lo hi b : Nat} (h1 : lo ≤ b) (h2 : b < hi) (i : Nat) (v : Value) : Chg w (w.setCell ⟨b, i, none⟩ v) lo hi :=
  ⟨rfl, rfl, rfl, by simp, fun k _ ho => Below.heap_setCell w ⟨b, i, none⟩ v k (show k ≠ b by omega)⟩

set_option maxRecDepth 20000 in
set_option maxHeartbeats 400000 in
theorem addS_frame (p base : Nat) (l : List ByteArray) (x : ByteArray) (w : World) (hl : l.length ≤ 100) (hx : x.size ≤ maxLen) (hn : num l x = 0) (h : TwS w base p l) :
    Calls Try.prog 19 #[.pointer (some ⟨p, 0, none⟩), .string x] w fun e w' => e = .returned (.bool true) ∧ TwS w' base p (l ++ [x]) ∧ Below base w w' ∧ ∀ top, TopS w p top → Chg w w' base top := by
  obtain ⟨iv, B, hp, hbp, hbB, ho, ht⟩ := h
  obtain ⟨i0, hi, hz0, hz1, hz2⟩ := info_parts Try.infoStr
  have hpl : p < w.heap.size := lt_of_block hp
  have c0 : w.cell? ⟨p, 0, none⟩ = some iv := by simp [World.cell?, hp]
  have c1 : w.cell? ⟨p, 1, none⟩ = some (.map (some B)) := by simp [World.cell?, hp]
  obtain ⟨ia, ic, rfl⟩ : ∃ ia ic, iv = .slice ia l.length ic := by
    rcases ho.2 with ⟨h1, h2⟩ | ⟨g, cap, cur, h1, _⟩
    · exact ⟨none, 0, by rw [h2]; exact h1⟩
    · exact ⟨_, _, h1⟩
  have HN : Hid (num l x = 0) := hn
  have hnum := numS_any p B l x w hx c1 ht
  rw [hn] at hnum
  clear hn
  go_enter Try.func19, Try.ntmps19
  go_wp2_with (first
    | (go_at_call 17; refine hnum.mono ?_; rintro e w' ⟨rfl, hw⟩; have hw2 := hw.symm; subst hw2)
    | (at_builtin; go_must (refine wpList_append_lies _ (by rfl) _ _ 24 (by rfl) base 9 i0 (.string ByteArray.empty) 1 16 Try.underlying24 hi hz0 hz1 hz2 rfl (by omega) (.slice ia l.length ic) l.length (l.map Value.string) (by rfl) (ho.alloc _) ⟨w.heap.size, 0, none⟩ 1 1 [.string x] (by rfl) (by rfl) ?c1 ?c2 (by omega) ?c3 ?c4 ?c5 (w.heap.size + 1) ?c6 ?_)))
  case c1 =>
    intro j u hj
    match j, hj with
    | 0, hj => simp at hj; subst hj; simp [Addr.add]
  case c2 => intro u hu; simp at hu; subst hu; rfl
  case c3 => unfold maxLen; omega
  case c4 => omega
  case c5 => simp; omega
  case c6 => simp
  intro g cap w1 ho1 hg1 hat hlt
  obtain ⟨n1, n2, hp1, hgp, ht1, hpB, hb1⟩ := addS_mid hp hbp hbB ho ht ho1 hg1
  have k0 : w1.cell? ⟨p, 0, none⟩ = some (.slice ia l.length ic) := by simp [World.cell?, hp1]
  have k1 : w1.cell? ⟨p, 1, none⟩ = some (.map (some B)) := by simp [World.cell?, hp1]
  have f0 : w1.frozen? ⟨p, 0, none⟩ = false := Joins.unfrozen_of_block hp1 0
  have ht2 := ht1.setCell (a := ⟨p, 0, none⟩) (Ne.symm hpB) (.slice (some ⟨g, 0, none⟩) (l.length + 1) cap)
  have hp2 : (w1.setCell ⟨p, 0, none⟩ (.slice (some ⟨g, 0, none⟩) (l.length + 1) cap)).heap[p]? = some (.cells #[.slice (some ⟨g, 0, none⟩) (l.length + 1) cap, .map (some B)] 73 (0, 0)) := by
    have := Joins.block_setCell (i := 0) hp1 (.slice (some ⟨g, 0, none⟩) (l.length + 1) cap)
    simpa using this
  have j0 : (w1.setCell ⟨p, 0, none⟩ (.slice (some ⟨g, 0, none⟩) (l.length + 1) cap)).cell? ⟨p, 0, none⟩ = some (.slice (some ⟨g, 0, none⟩) (l.length + 1) cap) := by unfold World.cell?; rw [hp2]; rfl
  have j1 : (w1.setCell ⟨p, 0, none⟩ (.slice (some ⟨g, 0, none⟩) (l.length + 1) cap)).cell? ⟨p, 1, none⟩ = some (.map (some B)) := by unfold World.cell?; rw [hp2]; rfl
  have hkey := keyOf_string_mk (P := Try.prog) Try.underlying9 hx
  obtain ⟨w3, hrun, ht3, hg3⟩ := (ht2.drew).store kS encS_inj Try.underlying71 (x := x) hkey HN.out (by omega) (c := (l.length : Int) + 1) rfl
  unfold encS at hrun
  have hp3 : w3.heap[p]? = some (.cells #[.slice (some ⟨g, 0, none⟩) (l.length + 1) cap, .map (some B)] 73 (0, 0)) := (hg3.block p (lt_of_block (w := (w1.setCell ⟨p, 0, none⟩ (.slice (some ⟨g, 0, none⟩) (l.length + 1) cap)).drew) hp2) (by simpa using hpB)).trans hp2
  have m0 : w3.cell? ⟨p, 0, none⟩ = some (.slice (some ⟨g, 0, none⟩) (l.length + 1) cap) := by unfold World.cell?; rw [hp3]; rfl
  have m1 : w3.cell? ⟨p, 1, none⟩ = some (.map (some B)) := by unfold World.cell?; rw [hp3]; rfl
  have HT3 : Hid (TwS w3 base p (l ++ [x]) ∧ Below base w w3 ∧ ∀ top, TopS w p top → Chg w w3 base top) := by
    have hgB : g ≠ B := by
      rintro rfl
      obtain ⟨D, ⟨es, ck, hes, _⟩, _⟩ := ht1
      rcases ho1.2 with ⟨h, _⟩ | ⟨g', c', cur, h, _, hh, _⟩
      · cases h
      · simp at h
        rw [← h.1, hes] at hh
        simp at hh
    have r1 := (ownsRow_setCell_other ho1 (a := ⟨p, 0, none⟩) (by simpa [Value.ownBlock] using Ne.symm hgp) (.slice (some ⟨g, 0, none⟩) (l.length + 1) cap)).drew.kept hg3 (by simp [Value.ownBlock]; exact hgB)
    refine ⟨⟨_, B, hp3, hbp, hbB, by simpa using r1, ht3⟩, ?_, fun top htop => ?_⟩
    rotate_left
    · obtain ⟨t1, t2, t3⟩ := htop _ _ hp
      have q1 : Chg (w.alloc (.cells #[.string x] 9)) w1 base top := Chg.of_grown hg1 (fun k hk => ⟨(ho.lt k hk).1, t3 k hk⟩)
      have q2 : Chg w1 (w1.setCell ⟨p, 0, none⟩ (.slice (some ⟨g, 0, none⟩) (l.length + 1) cap)) base top := Chg.of_set hbp t1 _ _
      have q3 : Chg (w1.setCell ⟨p, 0, none⟩ (.slice (some ⟨g, 0, none⟩) (l.length + 1) cap)).drew w3 base top := Chg.of_grown hg3 (fun k hk => by cases hk; exact ⟨hbB, t2⟩)
      exact (((Chg.of_below (below_box _) base top).trans q1).trans q2).trans ⟨q3.os, q3.tape, q3.output, q3.size, q3.block⟩
    exact (hb1.setCell (p := ⟨p, 0, none⟩) hbp _).drew.grown hg3 (Nat.le_trans hbp (Nat.le_of_lt (lt_of_block hp2))) (fun k h => by cases h; exact hbB)
  clear ht2 ht1 ht3 hg3 hp3 hp2
  have HO1 : Hid (w1.ownsRow base 9 1 (.slice (some ⟨g, 0, none⟩) (l.length + 1) cap) (l.length + 1) (l.map Value.string ++ [.string x])) := ho1
  clear ho1 hg1 hat ho ht hnum hkey hi hz0 hz1 hz2
  go_wp2
  go_region_held3 (fun w' => w'.cell? ⟨p, 0, none⟩ = some (.slice (some ⟨g, 0, none⟩) (l.length + 1) cap) ∧ w'.cell? ⟨p, 1, none⟩ = some (.map (some B))) (go_keep)
    (first | (go_at_call 18; refine (countS_any p (l.length + 1) cap (some ⟨g, 0, none⟩) _ ?_).mono ?_; (simp [*]); rintro e w' ⟨rfl, rfl⟩))
  go_wp2
  go_ret
  exact ⟨rfl, HT3.out⟩

theorem TwG.chg {w w' : World} {base p lo hi : Nat} {l : List (Int × Int)} (h : TwG w base p l) (hc : Chg w w' lo hi) (hh : hi ≤ base) : TwG w' base p l := by
  obtain ⟨iv, B, hp, hbp, hbB, ho, ht⟩ := h
  refine ⟨iv, B, hc.keep hp (.inr (by omega)), hbp, hbB, hc.row ho (fun k hk => .inr (by have := (ho.lt k hk).1; omega)), ?_⟩
  obtain ⟨D, hD, hat⟩ := ht
  obtain ⟨es, ck, hes, rest⟩ := hD
  exact ⟨D, ⟨es, ck, (hc.block B (lt_of_block hes) (.inr (by omega))).trans hes, rest⟩, hat⟩

/-- The tables' own slices. -/
theorem TwS.rows {w : World} {base p : Nat} {l : List ByteArray} {n : Nat} (hn : l.length = n) (h : TwS w base p l) : ∃ a cap, w.cell? ⟨p, 0, none⟩ = some (.slice a n cap) ∧ p < w.heap.size ∧ Hid (w.ownsRow base 9 1 (.slice a n cap) n (l.map Value.string)) := by
  subst hn
  obtain ⟨iv, B, hp, hbp, hbB, ho, ht⟩ := h
  have hc : w.cell? ⟨p, 0, none⟩ = some iv := by unfold World.cell?; rw [hp]; rfl
  rcases id ho.2 with ⟨h1, h2⟩ | ⟨g, cap, cur, h1, _⟩
  · exact ⟨none, 0, by rw [hc, h1, h2], lt_of_block hp, by rw [h2]; subst h1; rw [h2] at ho; exact ho⟩
  · subst h1
    exact ⟨_, _, hc, lt_of_block hp, ho⟩
theorem TwG.rows {w : World} {base p : Nat} {l : List (Int × Int)} {n : Nat} (hn : l.length = n) (h : TwG w base p l) : ∃ a cap, w.cell? ⟨p, 0, none⟩ = some (.slice a n cap) ∧ p < w.heap.size ∧ Hid (w.ownsRow base 64 2 (.slice a n cap) n (gcells l)) := by
  subst hn
  obtain ⟨iv, B, hp, hbp, hbB, ho, ht⟩ := h
  have hc : w.cell? ⟨p, 0, none⟩ = some iv := by unfold World.cell?; rw [hp]; rfl
  rcases id ho.2 with ⟨h1, h2⟩ | ⟨g, cap, cur, h1, _⟩
  · exact ⟨none, 0, by rw [hc, h1, h2], lt_of_block hp, by rw [h2]; subst h1; rw [h2] at ho; exact ho⟩
  · subst h1
    exact ⟨_, _, hc, lt_of_block hp, ho⟩

set_option maxHeartbeats 400000 in
theorem bookL_any (p q n m ic jc : Nat) (ia ja : Option Addr) (w : World) (hpl : p < w.heap.size) (hql : q < w.heap.size) (hp : w.cell? ⟨p, 0, none⟩ = some (.slice ia n ic)) (hq : w.cell? ⟨q, 0, none⟩ = some (.slice ja m jc)) :
    Calls Try.prog 20 #[.agg #[.pointer (some ⟨p, 0, none⟩), .pointer (some ⟨q, 0, none⟩)]] w fun e w' => e = .returned (.agg #[.slice ia n ic, .slice ja m jc]) ∧ Below w.heap.size w w' := by
  have hp2 : ∀ o o', ((w.alloc o).alloc o').cell? ⟨p, 0, none⟩ = some (.slice ia n ic) := fun o o' => ((below_box2 o o').cell (p := ⟨p, 0, none⟩) hpl).trans hp
  have hq2 : ∀ o o', ((w.alloc o).alloc o').cell? ⟨q, 0, none⟩ = some (.slice ja m jc) := fun o o' => ((below_box2 o o').cell (p := ⟨q, 0, none⟩) hql).trans hq
  have hnp : p ≠ w.heap.size + 1 := by omega
  have hnq : q ≠ w.heap.size + 1 := by omega
  go_enter Try.func20, Try.ntmps20
  go_wp2
  go_region_held3 (fun w' => w'.cell? ⟨p, 0, none⟩ = some (.slice ia n ic) ∧ w'.cell? ⟨q, 0, none⟩ = some (.slice ja m jc) ∧ w'.cell? ⟨w.heap.size, 0, none⟩ = some (.pointer (some ⟨p, 0, none⟩)) ∧ w'.cell? ⟨w.heap.size, 1, none⟩ = some (.pointer (some ⟨q, 0, none⟩))) (go_keep) (fail)
  go_wp2
  refine bodyPost_ret (v := .agg #[.slice ia n ic, .slice ja m jc]) (by simp [results, Try.results20, go_sem]) rfl ⟨rfl, ?_⟩
  exact (below_box2 _ _).drew

end Go.Proofs.Ytbpfbnmnpilgkaa

namespace Go.Proofs.Ytbpfbnmnpilgkaa
open Go.RowKit Go.Maps Go.WideMaps

/-- The program's reading of a ledger that lies boxed, a result of four cells behind it: where it has no fault. -/
theorem read4_ok {w : World} {n m tc gc : Nat} {ta ga : Option Addr} {ss : List ByteArray} {gs : List (Int × Int)} (hf : Fine ss gs) (h : LedAt w ta n ga m ss gs) (h0 : 0 = flt ss gs) :
    Calls Try.prog 15 #[.agg #[.slice ta n tc, .slice ga m gc]] ((w.alloc (.cells #[.slice ta n tc, .slice ga m gc] 27)).alloc (.cells #[.int .i64 0, .int .i64 0, .slice none 0 0, .slice none 0 0] 31)) fun e w' => ∃ p q top, e = .returned (.tuple #[.agg #[.pointer (some ⟨p, 0, none⟩), .pointer (some ⟨q, 0, none⟩)], .int .i64 0]) ∧
      Hid (Box4 w w' (.slice ta n tc) (.slice ga m gc) 27) ∧ Hid (TwS w' (w.heap.size + 2) p ss ∧ TopS w' p top ∧ TwG w' top q gs ∧ w.heap.size + 2 ≤ top) := by
  have hb : Below w.heap.size w ((w.alloc (.cells #[.slice ta n tc, .slice ga m gc] 27)).alloc (.cells #[.int .i64 0, .int .i64 0, .slice none 0 0, .slice none 0 0] 31)) := below_box2 _ _
  refine (readLedger_any n m tc gc ta ga ss gs _ hf.s hf.g (h.s.below hb (Nat.le_refl _)) (h.g.below hb (Nat.le_refl _))).mono fun e w' hr => ?_
  rcases hr with ⟨hbl, ⟨_, p, q, top, he, h1, h2, h3, h4⟩ | ⟨hn, _⟩⟩
  · have hs : ((w.alloc (.cells #[.slice ta n tc, .slice ga m gc] 27)).alloc (.cells #[.int .i64 0, .int .i64 0, .slice none 0 0, .slice none 0 0] 31)).heap.size = w.heap.size + 2 := by simp
    rw [hs] at h1 h4
    exact ⟨p, q, top, he, Box4.start hbl, h1, h2, h3, h4⟩
  · exact absurd h0.symm hn

theorem read4_bad {w : World} {n m tc gc : Nat} {ta ga : Option Addr} {ss : List ByteArray} {gs : List (Int × Int)} {c : Int} (hf : Fine ss gs) (h : LedAt w ta n ga m ss gs) (hc : c = flt ss gs) (h0 : ¬ c = 0) :
    Calls Try.prog 15 #[.agg #[.slice ta n tc, .slice ga m gc]] ((w.alloc (.cells #[.slice ta n tc, .slice ga m gc] 27)).alloc (.cells #[.int .i64 0, .int .i64 0, .slice none 0 0, .slice none 0 0] 31)) fun e w' => e = .returned (.tuple #[.agg #[.pointer none, .pointer none], .int .i64 c]) ∧ Hid (Box4 w w' (.slice ta n tc) (.slice ga m gc) 27) := by
  have hb : Below w.heap.size w ((w.alloc (.cells #[.slice ta n tc, .slice ga m gc] 27)).alloc (.cells #[.int .i64 0, .int .i64 0, .slice none 0 0, .slice none 0 0] 31)) := below_box2 _ _
  refine (readLedger_any n m tc gc ta ga ss gs _ hf.s hf.g (h.s.below hb (Nat.le_refl _)) (h.g.below hb (Nat.le_refl _))).mono fun e w' hr => ?_
  rcases hr with ⟨hbl, ⟨hn, _⟩ | ⟨_, he⟩⟩
  · exact absurd (hc.trans hn) h0
  · exact ⟨by rw [hc]; exact he, Box4.start hbl⟩

/-- The program's book in block K, its two tables, and the result under way. -/
structure Bk (w V : World) (K p q : Nat) (ss : List ByteArray) (gs : List (Int × Int)) (a0 a1 : Value) : Prop where
  r : Box4 w V a0 a1 27
  k : V.heap[K]? = some (.cells #[.pointer (some ⟨p, 0, none⟩), .pointer (some ⟨q, 0, none⟩)] 48 (0, 0))
  s : TwS V (w.heap.size + 2) p ss
  g : TwG V (w.heap.size + 2) q gs

theorem Bk.step {w V V' : World} {K p q : Nat} {ss : List ByteArray} {gs : List (Int × Int)} {a0 a1 : Value} (h : Bk w V K p q ss gs a0 a1) (hb : Below V.heap.size V V') : Bk w V' K p q ss gs a0 a1 :=
  ⟨(h.r.step hb).out, (keepb h.k hb).out, h.s.below hb, h.g.below hb⟩

theorem Bk.tail {w V : World} {K p q : Nat} {ss : List ByteArray} {gs : List (Int × Int)} {a0 a1 : Value} {n m : Nat} (h : Bk w V K p q ss gs a0 a1) (hn : ss.length = n) (hm : gs.length = m) :
    ∃ ia ic ja jc, Hid (Calls Try.prog 20 #[.agg #[.pointer (some ⟨p, 0, none⟩), .pointer (some ⟨q, 0, none⟩)]] V.drew fun e w' => e = .returned (.agg #[.slice ia n ic, .slice ja m jc]) ∧ Below V.heap.size V w') ∧
      Hid (V.ownsRow (w.heap.size + 2) 9 1 (.slice ia n ic) n (ss.map Value.string) ∧ V.ownsRow (w.heap.size + 2) 64 2 (.slice ja m jc) m (gcells gs)) := by
  obtain ⟨ia, ic, hi, hip, HI⟩ := h.s.rows hn
  obtain ⟨ja, jc, hj, hjp, HJ⟩ := h.g.rows hm
  refine ⟨ia, ic, ja, jc, ?_, HI.out, HJ.out⟩
  exact (bookL_any p q n m ic jc ia ja V.drew hip hjp hi hj).mono fun e w' hr => ⟨hr.1, (Below.refl _ _).drew.trans hr.2⟩

/-- What the end of NoteText and SignId leaves. -/
theorem Bk.out {w V V' : World} {K p q : Nat} {ss : List ByteArray} {gs : List (Int × Int)} {a0 a1 : Value} {n m ic jc : Nat} {ia ja : Option Addr} (h : Bk w V K p q ss gs a0 a1) (hn : ss.length = n) (hm : gs.length = m) (hb : Below V.heap.size V V')
    (hr : V.ownsRow (w.heap.size + 2) 9 1 (.slice ia n ic) n (ss.map Value.string) ∧ V.ownsRow (w.heap.size + 2) 64 2 (.slice ja m jc) m (gcells gs)) (i : Int) (v0 v1 v2 v3 : Value) :
    OutL w ((((V'.setCell ⟨w.heap.size + 1, 0, none⟩ v0).setCell ⟨w.heap.size + 1, 1, none⟩ v1).setCell ⟨w.heap.size + 1, 2, none⟩ v2).setCell ⟨w.heap.size + 1, 3, none⟩ v3) (.returned (.agg #[.int .i64 0, .int .i64 i, .slice ia n ic, .slice ja m jc])) ⟨0, i, ss, gs⟩ := by
  subst hn hm
  have r1 := hr.1.kept (grown_of_below hb) (by cases Value.ownBlock (.slice ia ss.length ic) <;> simp)
  have r2 := hr.2.kept (grown_of_below hb) (by cases Value.ownBlock (.slice ja gs.length jc) <;> simp)
  exact ⟨below_res4 (h.r.step hb).out.2.1 _ _ _ _, ia, ic, ja, jc, rfl, row_res4 r1 (by omega) (by omega) _ _ _ _, row_res4 r2 (by omega) (by omega) _ _ _ _⟩

theorem num_self {l : List ByteArray} {x : ByteArray} (h : num l x = 0) : num (l ++ [x]) x = l.length + 1 := by rw [num_snoc l x x ((num_zero l x).1 h), if_pos rfl]

theorem k4 {W : World} {b c : Nat} {v0 v1 v2 v3 : Value} (h : c ≠ b) : ((((W.setCell ⟨b, 0, none⟩ v0).setCell ⟨b, 1, none⟩ v1).setCell ⟨b, 2, none⟩ v2).setCell ⟨b, 3, none⟩ v3).heap[c]? = W.heap[c]? :=
  (Below.heap_setCell _ ⟨b, 3, none⟩ _ c h).trans ((Below.heap_setCell _ ⟨b, 2, none⟩ _ c h).trans ((Below.heap_setCell _ ⟨b, 1, none⟩ _ c h).trans (Below.heap_setCell _ ⟨b, 0, none⟩ _ c h)))

theorem bk_new {w w2 w3 : World} {p q top : Nat} {ss ss' : List ByteArray} {gs : List (Int × Int)} {a0 a1 : Value} (h : Bk w (w2.alloc (.cells #[.pointer (some ⟨p, 0, none⟩), .pointer (some ⟨q, 0, none⟩)] 48)) w2.heap.size p q ss gs a0 a1)
    (hT : TwS w2 (w.heap.size + 2) p ss ∧ TopS w2 p top ∧ TwG w2 top q gs ∧ w.heap.size + 2 ≤ top) (htw : TwS w3 (w.heap.size + 2) p ss') (hb : Below (w.heap.size + 2) (w2.alloc (.cells #[.pointer (some ⟨p, 0, none⟩), .pointer (some ⟨q, 0, none⟩)] 48)) w3)
    (hch : ∀ top, TopS (w2.alloc (.cells #[.pointer (some ⟨p, 0, none⟩), .pointer (some ⟨q, 0, none⟩)] 48)) p top → Chg (w2.alloc (.cells #[.pointer (some ⟨p, 0, none⟩), .pointer (some ⟨q, 0, none⟩)] 48)) w3 (w.heap.size + 2) top) : Hid (Bk w w3 w2.heap.size p q ss' gs a0 a1) := by
  have hpl : p < w2.heap.size := by obtain ⟨iv, B, hp, _⟩ := hT.1; exact lt_of_block hp
  have htop : TopS (w2.alloc (.cells #[.pointer (some ⟨p, 0, none⟩), .pointer (some ⟨q, 0, none⟩)] 48)) p top := hT.2.1.of_block (Below.heap_alloc _ _ p hpl)
  have hc := hch top htop
  have hqt : top ≤ w2.heap.size := by obtain ⟨iv, B, hq, hbq, _⟩ := hT.2.2.1; have := lt_of_block hq; omega
  refine ⟨⟨(hb.block _ (by omega)).trans h.r.1, h.r.2.1.trans (hb.mono (by omega)), (hb.block _ (by omega)).trans h.r.2.2⟩, hc.keep h.k (.inr hqt), htw, ?_⟩
  exact ((hT.2.2.1.below (below_box _)).chg hc (Nat.le_refl _)).mono hT.2.2.2

set_option maxRecDepth 20000 in
set_option maxHeartbeats 2000000 in
theorem iNoteText_any (n m tc gc : Nat) (ta ga : Option Addr) (ss : List ByteArray) (gs : List (Int × Int)) (x : ByteArray) (w : World) (hx : x.size ≤ maxLen) (hf : Fine ss gs) (h : LedAt w ta n ga m ss gs) :
    Calls Try.prog 6 #[.agg #[.slice ta n tc, .slice ga m gc], .string x] w fun e w' => OutL w w' e (noteR ss gs x) := by
  obtain ⟨c, hc⟩ : ∃ c, c = flt ss gs := ⟨_, rfl⟩
  have HX : Hid (x.size ≤ maxLen) := hx
  have HN : Hid (ss.length = n) := h.s.1
  have HM : Hid (gs.length = m) := h.g.1
  clear hx
  by_cases hcz : c = 0
  · subst hcz
    have hrd := read4_ok (tc := tc) (gc := gc) hf h hc
    have hlen := flt_le hc
    rw [HN.out, HM.out] at hlen
    have h60 := hlen.1
    clear hlen h hf
    by_cases hsz : inB x.size 1 300 = true
    · have HS : Hid (¬ (x.size < 1 ∨ 300 < x.size)) := by have := inB_true.1 hsz; show ¬ _; omega
      obtain ⟨k, hk⟩ : ∃ k, k = num ss x := ⟨_, rfl⟩
      have HK : Hid (num ss x = k) := hk.symm
      by_cases hk0 : k = 0
      · have hk1 : num ss x = 0 := by rw [← hk]; exact hk0
        by_cases hful : 60 ≤ n
        · rw [noteR_full HN.out hc HS.out hk1 hful]
          subst hk0
          clear hc hk hk1
          go_enter Try.func6, Try.ntmps6
          go_wp2_with (first
            | (go_at_call 15; refine hrd.mono ?_; rintro e w2 ⟨p, q, top, rfl, HB, HT⟩; obtain ⟨Ky0, Ky1, Ky2, Ky3, Ky4, Ky5, Ky6, Ky7⟩ := cells4 (HB.out.step (below_box (.cells #[.pointer (some ⟨p, 0, none⟩), .pointer (some ⟨q, 0, none⟩)] 48))).out.1; have hnb := numS_tw x HX.out (HT.out.1.below (below_box (.cells #[.pointer (some ⟨p, 0, none⟩), .pointer (some ⟨q, 0, none⟩)] 48))); rw [HK.out] at hnb; obtain ⟨ia, ic, hI, HSA⟩ := tw_items (o := .cells #[.pointer (some ⟨p, 0, none⟩), .pointer (some ⟨q, 0, none⟩)] 48) HN.out HT.out.1; have hct := countS_any p n ic ia _ hI; clear hI)
            | (go_at_call 16; refine (isTextLength_any _ _).mono ?_; rintro e w' ⟨rfl, hw⟩; subst hw)
            | (go_at_call 17; refine hnb.mono ?_; rintro e w' ⟨rfl, hw⟩; subst hw)
            | (go_at_call 18; refine hct.mono ?_; rintro e w' ⟨rfl, hw⟩; subst hw))
          obtain ⟨s0, s1, s2, s3⟩ := four_set (HB.out.step (below_box (.cells #[.pointer (some ⟨p, 0, none⟩), .pointer (some ⟨q, 0, none⟩)] 48))).out.1 (.int .i64 2) (.int .i64 0) (.slice none 0 0) (.slice none 0 0)
          exact bodyPost_ret (v := .agg #[.int .i64 2, .int .i64 0, .slice none 0 0, .slice none 0 0]) (by simp [results, Try.results6, go_sem, s0, s1, s2, s3]) rfl (OutL.empty (below_res4 (HB.out.step (below_box _)).out.2.1 _ _ _ _))
        · have hr := noteR_new HN.out hc HS.out hk1 hful
          rw [hr]
          subst hk0
          have HK1 : Hid (num ss x = 0) := hk1
          have HKN : Hid (num (ss ++ [x]) x = n + 1) := by show _ = _; rw [num_self hk1, HN.out]
          have hful' : (n : Int) < 60 := by omega
          have hss : ss.length ≤ 100 := by rw [HN.out]; omega
          have HSL : Hid (ss.length ≤ 100) := hss
          have HE1 : Hid ((ss ++ [x]).length = n + 1) := by show _ = _; simp [HN.out]
          clear hr hc hk hk1 hful hss
          go_enter Try.func6, Try.ntmps6
          go_wp2_with (first
            | (go_at_call 15; refine hrd.mono ?_; rintro e w2 ⟨p, q, top, rfl, HB, HT⟩; have hnb := numS_tw x HX.out (HT.out.1.below (below_box (.cells #[.pointer (some ⟨p, 0, none⟩), .pointer (some ⟨q, 0, none⟩)] 48))); rw [HK.out] at hnb; obtain ⟨ia, ic, hI, HSA⟩ := tw_items (o := (.cells #[.pointer (some ⟨p, 0, none⟩), .pointer (some ⟨q, 0, none⟩)] 48)) HN.out HT.out.1; have hct := countS_any p n ic ia _ hI; have HBK0 : Hid (Bk w (w2.alloc (.cells #[.pointer (some ⟨p, 0, none⟩), .pointer (some ⟨q, 0, none⟩)] 48)) w2.heap.size p q ss gs (.slice ta n tc) (.slice ga m gc)) := ⟨(HB.out.step (below_box _)).out, heap_alloc_new _ _, HT.out.1.below (below_box _), (HT.out.2.2.1.mono HT.out.2.2.2).below (below_box _)⟩; clear hI)
            | (go_at_call 16; refine (isTextLength_any _ _).mono ?_; rintro e w' ⟨rfl, hw⟩; subst hw)
            | (go_at_call 17; refine hnb.mono ?_; rintro e w' ⟨rfl, hw⟩; subst hw)
            | (go_at_call 18; refine hct.mono ?_; rintro e w' ⟨rfl, hw⟩; subst hw)
            | (go_at_call 19; refine (addS_frame p (w.heap.size + 2) ss x _ HSL.out HX.out HK1.out HBK0.out.s).mono ?_; rintro e w3 ⟨rfl, htw3, hb3, hch3⟩; have HBK : Hid (Bk w w3 w2.heap.size p q (ss ++ [x]) gs (.slice ta n tc) (.slice ga m gc)) := bk_new HBK0.out HT.out htw3 hb3 hch3; clear htw3 hb3 hch3))
          clear hrd hnb hct HBK0
          obtain ⟨ia, ic, ja, jc, HLD, HRW⟩ := HBK.out.tail HE1.out HM.out
          obtain ⟨t0, t1⟩ := cells2 HBK.out.k
          have hne2 : w2.heap.size ≠ w.heap.size + 1 := by have := HB.out.lt; omega
          have hne3 : w.heap.size + 1 ≠ w2.heap.size := fun e => hne2 e.symm
          have hlk : w2.heap.size < (w3).heap.size := lt_of_block HBK.out.k
          have hnum : ∀ v, Below (w3).heap.size (w3) v → Calls Try.prog 17 #[.pointer (some ⟨p, 0, none⟩), .string x] v fun e w' => e = .returned (.int .i64 ((n : Int) + 1)) ∧ w' = v := fun v hv => by
            have := numS_tw x HX.out (HBK.out.step hv).s
            rw [HKN.out] at this
            simpa using this
          go_region_held3 (fun w' => w'.cell? ⟨w2.heap.size, 0, none⟩ = some (.pointer (some ⟨p, 0, none⟩)) ∧ w'.cell? ⟨w2.heap.size, 1, none⟩ = some (.pointer (some ⟨q, 0, none⟩))) (first | go_keep | (refine ⟨?_, ?_⟩ <;> (rw [World.cell?_of_block (w := w5) (k4 hne2)]; assumption)))
            (first | (go_at_call 17; refine (hnum _ (by first | exact hb5 | exact (Below.refl _ _).drew)).mono ?_; rintro e w6 ⟨rfl, hw⟩; subst hw) | (go_at_call 20; refine HLD.out.mono ?_; rintro e w5 ⟨rfl, hb5⟩; have z0 := (hb5.cell (p := ⟨w2.heap.size, 0, none⟩) hlk).trans t0; have z1 := (hb5.cell (p := ⟨w2.heap.size, 1, none⟩) hlk).trans t1; obtain ⟨J0, J1, J2, J3, J4, J5, J6, J7⟩ := cells4 (HBK.out.r.step hb5).out.1))
          all_goals
            go_wp2
            obtain ⟨s0, s1, s2, s3⟩ := four_set (HBK.out.r.step hb5).out.1 (.int .i64 0) (.int .i64 ((n : Int) + 1)) (.slice ia (n + 1) ic) (.slice ja m jc)
            exact bodyPost_ret (v := .agg #[.int .i64 0, .int .i64 ((n : Int) + 1), .slice ia (n + 1) ic, .slice ja m jc]) (by simp [results, Try.results6, go_sem, s0, s1, s2, s3]) rfl (HBK.out.out HE1.out HM.out hb5 HRW.out ((n : Int) + 1) _ _ _ _)
      · have hr := noteR_old hc HS.out hk hk0
        rw [hr]
        have hki : (k : Int) ≠ 0 := by omega
        have HK0 : Hid (¬ num ss x = 0) := by rw [← hk]; exact hk0
        clear hr hc hk hk0
        go_enter Try.func6, Try.ntmps6
        go_wp2_with (first
          | (go_at_call 15; refine hrd.mono ?_; rintro e w2 ⟨p, q, top, rfl, HB, HT⟩; have hnb := numS_tw x HX.out (HT.out.1.below (below_box (.cells #[.pointer (some ⟨p, 0, none⟩), .pointer (some ⟨q, 0, none⟩)] 48))); rw [HK.out] at hnb; obtain ⟨ia, ic, hI, HSA⟩ := tw_items (o := (.cells #[.pointer (some ⟨p, 0, none⟩), .pointer (some ⟨q, 0, none⟩)] 48)) HN.out HT.out.1; have hct := countS_any p n ic ia _ hI; have HBK0 : Hid (Bk w (w2.alloc (.cells #[.pointer (some ⟨p, 0, none⟩), .pointer (some ⟨q, 0, none⟩)] 48)) w2.heap.size p q ss gs (.slice ta n tc) (.slice ga m gc)) := ⟨(HB.out.step (below_box _)).out, heap_alloc_new _ _, HT.out.1.below (below_box _), (HT.out.2.2.1.mono HT.out.2.2.2).below (below_box _)⟩; clear hI)
          | (go_at_call 16; refine (isTextLength_any _ _).mono ?_; rintro e w' ⟨rfl, hw⟩; subst hw)
          | (go_at_call 17; refine hnb.mono ?_; rintro e w' ⟨rfl, hw⟩; subst hw)
          | (go_at_call 18; refine hct.mono ?_; rintro e w' ⟨rfl, hw⟩; subst hw)
          | (go_at_call 19; refine (addS_old p (w.heap.size + 2) ss x _ HX.out HK0.out HBK0.out.s).mono ?_; rintro e w' ⟨rfl, hw⟩; subst hw))
        have HBK := HBK0
        clear hrd hnb hct HBK0
        obtain ⟨ia, ic, ja, jc, HLD, HRW⟩ := HBK.out.tail HN.out HM.out
        obtain ⟨t0, t1⟩ := cells2 HBK.out.k
        have hne2 : w2.heap.size ≠ w.heap.size + 1 := by have := HB.out.lt; omega
        have hne3 : w.heap.size + 1 ≠ w2.heap.size := fun e => hne2 e.symm
        have hlk : w2.heap.size < (w2.alloc (.cells #[.pointer (some ⟨p, 0, none⟩), .pointer (some ⟨q, 0, none⟩)] 48)).heap.size := lt_of_block HBK.out.k
        have hnum : ∀ v, Below (w2.alloc (.cells #[.pointer (some ⟨p, 0, none⟩), .pointer (some ⟨q, 0, none⟩)] 48)).heap.size (w2.alloc (.cells #[.pointer (some ⟨p, 0, none⟩), .pointer (some ⟨q, 0, none⟩)] 48)) v → Calls Try.prog 17 #[.pointer (some ⟨p, 0, none⟩), .string x] v fun e w' => e = .returned (.int .i64 (k : Int)) ∧ w' = v := fun v hv => by
          have := numS_tw x HX.out (HBK.out.step hv).s
          rw [HK.out] at this
          exact this
        go_region_held3 (fun w' => w'.cell? ⟨w2.heap.size, 0, none⟩ = some (.pointer (some ⟨p, 0, none⟩)) ∧ w'.cell? ⟨w2.heap.size, 1, none⟩ = some (.pointer (some ⟨q, 0, none⟩))) (first | go_keep | (refine ⟨?_, ?_⟩ <;> (rw [World.cell?_of_block (w := w5) (k4 hne2)]; assumption)))
          (first | (go_at_call 17; refine (hnum _ (by first | exact hb5 | exact (Below.refl _ _).drew)).mono ?_; rintro e w6 ⟨rfl, hw⟩; subst hw) | (go_at_call 20; refine HLD.out.mono ?_; rintro e w5 ⟨rfl, hb5⟩; have z0 := (hb5.cell (p := ⟨w2.heap.size, 0, none⟩) hlk).trans t0; have z1 := (hb5.cell (p := ⟨w2.heap.size, 1, none⟩) hlk).trans t1; obtain ⟨J0, J1, J2, J3, J4, J5, J6, J7⟩ := cells4 (HBK.out.r.step hb5).out.1))
        all_goals
          go_wp2
          obtain ⟨s0, s1, s2, s3⟩ := four_set (HBK.out.r.step hb5).out.1 (.int .i64 0) (.int .i64 (k : Int)) (.slice ia n ic) (.slice ja m jc)
          exact bodyPost_ret (v := .agg #[.int .i64 0, .int .i64 (k : Int), .slice ia n ic, .slice ja m jc]) (by simp [results, Try.results6, go_sem, s0, s1, s2, s3]) rfl (HBK.out.out HN.out HM.out hb5 HRW.out (k : Int) _ _ _ _)
    · have hsz' : inB x.size 1 300 = false := by simpa using hsz
      rw [noteR_size hc (by have := inB_false.1 hsz'; omega)]
      clear hc hsz
      go_enter Try.func6, Try.ntmps6
      go_wp2_with (first
        | (go_at_call 15; refine hrd.mono ?_; rintro e w2 ⟨p, q, top, rfl, HB, HT⟩; obtain ⟨Ky0, Ky1, Ky2, Ky3, Ky4, Ky5, Ky6, Ky7⟩ := cells4 (HB.out.step (below_box (.cells #[.pointer (some ⟨p, 0, none⟩), .pointer (some ⟨q, 0, none⟩)] 48))).out.1)
        | (go_at_call 16; refine (isTextLength_any _ _).mono ?_; rintro e w' ⟨rfl, hw⟩; subst hw))
      obtain ⟨s0, s1, s2, s3⟩ := four_set (HB.out.step (below_box (.cells #[.pointer (some ⟨p, 0, none⟩), .pointer (some ⟨q, 0, none⟩)] 48))).out.1 (.int .i64 2) (.int .i64 0) (.slice none 0 0) (.slice none 0 0)
      exact bodyPost_ret (v := .agg #[.int .i64 2, .int .i64 0, .slice none 0 0, .slice none 0 0]) (by simp [results, Try.results6, go_sem, s0, s1, s2, s3]) rfl (OutL.empty (below_res4 (HB.out.step (below_box _)).out.2.1 _ _ _ _))
  · have hrd := read4_bad (tc := tc) (gc := gc) hf h hc hcz
    rw [noteR_bad hc hcz]
    clear hc h hf
    go_enter Try.func6, Try.ntmps6
    go_wp2_with (first
      | (go_at_call 15; refine hrd.mono ?_; rintro e w2 ⟨rfl, HB⟩; obtain ⟨Ky0, Ky1, Ky2, Ky3, Ky4, Ky5, Ky6, Ky7⟩ := cells4 (HB.out.step (below_box (.cells #[.pointer none, .pointer none] 48))).out.1))
    obtain ⟨s0, s1, s2, s3⟩ := four_set (HB.out.step (below_box (.cells #[.pointer none, .pointer none] 48))).out.1 (.int .i64 c) (.int .i64 0) (.slice none 0 0) (.slice none 0 0)
    exact bodyPost_ret (v := .agg #[.int .i64 c, .int .i64 0, .slice none 0 0, .slice none 0 0]) (by simp [results, Try.results6, go_sem, s0, s1, s2, s3]) rfl (OutL.empty (below_res4 (HB.out.step (below_box _)).out.2.1 _ _ _ _))

end Go.Proofs.Ytbpfbnmnpilgkaa
