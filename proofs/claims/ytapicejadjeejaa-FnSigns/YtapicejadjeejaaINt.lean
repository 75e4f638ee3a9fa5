/- A new text in the table, and what of other memory stays. What the program's NoteText answers. -/
import Derived.Test.YtapicejadjeejaaCp
namespace Go.Proofs.Ytapicejadjeejaa
open Go.RowKit Go.Maps Go.WideMaps

theorem Chg.of_set {w : World} {lo hi b : Nat} (h1 : lo ≤ b) (h2 : b < hi) (i : Nat) (v : Value) : Chg w (w.setCell ⟨b, i, none⟩ v) lo hi :=
  ⟨rfl, rfl, rfl, by simp, fun k _ ho => Below.heap_setCell w ⟨b, i, none⟩ v k (show k ≠ b by omega)⟩

theorem TwG.chg {w w' : World} {base p lo hi : Nat} {l : List (Int × Int)} (h : TwG w base p l) (hc : Chg w w' lo hi) (hh : hi ≤ base) : TwG w' base p l := by
  obtain ⟨iv, B, hp, hbp, hbB, ho, ht⟩ := h
  refine ⟨iv, B, hc.keep hp (.inr (by omega)), hbp, hbB, hc.row ho (fun k hk => .inr (by have := (ho.lt k hk).1; omega)), ?_⟩
  obtain ⟨D, hD, hat⟩ := ht
  obtain ⟨es, ck, hes, rest⟩ := hD
  exact ⟨D, ⟨es, ck, (hc.block B (lt_of_block hes) (.inr (by omega))).trans hes, rest⟩, hat⟩

/-- The tables' own slices. -/
theorem TwS.rows {w : World} {base p : Nat} {l : List ByteArray} {n : Nat} (hn : l.length = n) (h : TwS w base p l) : ∃ a cap, w.cell? ⟨p, 0, none⟩ = some (.slice a n cap) ∧ p < w.heap.size ∧ Hid (w.ownsRow base 9 1 (.slice a n cap) n (l.map Value.string)) := by
  subst hn
  obtain ⟨iv, B, hp, hbp, hbB, ho, ht⟩ := h
  have hc : w.cell? ⟨p, 0, none⟩ = some iv := by unfold World.cell?; rw [hp]; rfl
  rcases id ho.2 with ⟨h1, h2⟩ | ⟨g, cap, cur, h1, _⟩
  · exact ⟨none, 0, by rw [hc, h1, h2], lt_of_block hp, by rw [h2]; subst h1; rw [h2] at ho; exact ho⟩
  · subst h1
    exact ⟨_, _, hc, lt_of_block hp, ho⟩
theorem TwG.rows {w : World} {base p : Nat} {l : List (Int × Int)} {n : Nat} (hn : l.length = n) (h : TwG w base p l) : ∃ a cap, w.cell? ⟨p, 0, none⟩ = some (.slice a n cap) ∧ p < w.heap.size ∧ Hid (w.ownsRow base 53 2 (.slice a n cap) n (gcells l)) := by
  subst hn
  obtain ⟨iv, B, hp, hbp, hbB, ho, ht⟩ := h
  have hc : w.cell? ⟨p, 0, none⟩ = some iv := by unfold World.cell?; rw [hp]; rfl
  rcases id ho.2 with ⟨h1, h2⟩ | ⟨g, cap, cur, h1, _⟩
  · exact ⟨none, 0, by rw [hc, h1, h2], lt_of_block hp, by rw [h2]; subst h1; rw [h2] at ho; exact ho⟩
  · subst h1
    exact ⟨_, _, hc, lt_of_block hp, ho⟩

set_option maxHeartbeats 400000 in
theorem bookL_any (p q n m ic jc : Nat) (ia ja : Option Addr) (w : World) (hpl : p < w.heap.size) (hql : q < w.heap.size) (hp : w.cell? ⟨p, 0, none⟩ = some (.slice ia n ic)) (hq : w.cell? ⟨q, 0, none⟩ = some (.slice ja m jc)) :
    Calls Try.prog 22 #[.agg #[.pointer (some ⟨p, 0, none⟩), .pointer (some ⟨q, 0, none⟩)]] w fun e w' => e = .returned (.agg #[.slice ia n ic, .slice ja m jc]) ∧ Below w.heap.size w w' := by
  have hp2 : ∀ o o', ((w.alloc o).alloc o').cell? ⟨p, 0, none⟩ = some (.slice ia n ic) := fun o o' => ((below_box2 o o').cell (p := ⟨p, 0, none⟩) hpl).trans hp
  have hq2 : ∀ o o', ((w.alloc o).alloc o').cell? ⟨q, 0, none⟩ = some (.slice ja m jc) := fun o o' => ((below_box2 o o').cell (p := ⟨q, 0, none⟩) hql).trans hq
  have hnp : p ≠ w.heap.size + 1 := by omega
  have hnq : q ≠ w.heap.size + 1 := by omega
  go_enter Try.func22, Try.ntmps22
  go_wp2
  go_region_held3 (fun w' => w'.cell? ⟨p, 0, none⟩ = some (.slice ia n ic) ∧ w'.cell? ⟨q, 0, none⟩ = some (.slice ja m jc) ∧ w'.cell? ⟨w.heap.size, 0, none⟩ = some (.pointer (some ⟨p, 0, none⟩)) ∧ w'.cell? ⟨w.heap.size, 1, none⟩ = some (.pointer (some ⟨q, 0, none⟩))) (go_keep) (fail)
  go_wp2
  refine bodyPost_ret (v := .agg #[.slice ia n ic, .slice ja m jc]) (by simp [results, Try.results22, go_sem]) rfl ⟨rfl, ?_⟩
  exact (below_box2 _ _).drew

end Go.Proofs.Ytapicejadjeejaa

namespace Go.Proofs.Ytapicejadjeejaa
open Go.RowKit Go.Maps Go.WideMaps

/-- The program's reading of a ledger that lies boxed, a result of four cells behind it: where it has no fault. -/
theorem read4_ok {w : World} {n m tc gc : Nat} {ta ga : Option Addr} {ss : List ByteArray} {gs : List (Int × Int)} (hf : Fine ss gs) (h : LedAt w ta n ga m ss gs) (h0 : 0 = flt ss gs) :
    Calls Try.prog 16 #[.agg #[.slice ta n tc, .slice ga m gc]] ((w.alloc (.cells #[.slice ta n tc, .slice ga m gc] 27)).alloc (.cells #[.int .i64 0, .int .i64 0, .slice none 0 0, .slice none 0 0] 31)) fun e w' => ∃ p q top, e = .returned (.tuple #[.agg #[.pointer (some ⟨p, 0, none⟩), .pointer (some ⟨q, 0, none⟩)], .int .i64 0]) ∧
      Hid (Box4 w w' (.slice ta n tc) (.slice ga m gc) 27) ∧ Hid (TwS w' (w.heap.size + 2) p ss ∧ TopS w' p top ∧ TwG w' top q gs ∧ w.heap.size + 2 ≤ top) := by
  have hb : Below w.heap.size w ((w.alloc (.cells #[.slice ta n tc, .slice ga m gc] 27)).alloc (.cells #[.int .i64 0, .int .i64 0, .slice none 0 0, .slice none 0 0] 31)) := below_box2 _ _
  refine (readLedger_any n m tc gc ta ga ss gs _ hf.s hf.g (h.s.below hb (Nat.le_refl _)) (h.g.below hb (Nat.le_refl _))).mono fun e w' hr => ?_
  rcases hr with ⟨hbl, ⟨_, p, q, top, he, h1, h2, h3, h4⟩ | ⟨hn, _⟩⟩
  · have hs : ((w.alloc (.cells #[.slice ta n tc, .slice ga m gc] 27)).alloc (.cells #[.int .i64 0, .int .i64 0, .slice none 0 0, .slice none 0 0] 31)).heap.size = w.heap.size + 2 := by simp
    rw [hs] at h1 h4
    exact ⟨p, q, top, he, Box4.start hbl, h1, h2, h3, h4⟩
  · exact absurd h0.symm hn

theorem read4_bad {w : World} {n m tc gc : Nat} {ta ga : Option Addr} {ss : List ByteArray} {gs : List (Int × Int)} {c : Int} (hf : Fine ss gs) (h : LedAt w ta n ga m ss gs) (hc : c = flt ss gs) (h0 : ¬ c = 0) :
    Calls Try.prog 16 #[.agg #[.slice ta n tc, .slice ga m gc]] ((w.alloc (.cells #[.slice ta n tc, .slice ga m gc] 27)).alloc (.cells #[.int .i64 0, .int .i64 0, .slice none 0 0, .slice none 0 0] 31)) fun e w' => e = .returned (.tuple #[.agg #[.pointer none, .pointer none], .int .i64 c]) ∧ Hid (Box4 w w' (.slice ta n tc) (.slice ga m gc) 27) := by
  have hb : Below w.heap.size w ((w.alloc (.cells #[.slice ta n tc, .slice ga m gc] 27)).alloc (.cells #[.int .i64 0, .int .i64 0, .slice none 0 0, .slice none 0 0] 31)) := below_box2 _ _
  refine (readLedger_any n m tc gc ta ga ss gs _ hf.s hf.g (h.s.below hb (Nat.le_refl _)) (h.g.below hb (Nat.le_refl _))).mono fun e w' hr => ?_
  rcases hr with ⟨hbl, ⟨hn, _⟩ | ⟨_, he⟩⟩
  · exact absurd (hc.trans hn) h0
  · exact ⟨by rw [hc]; exact he, Box4.start hbl⟩

/-- The program's book in block K, its two tables, and the result under way. -/
structure Bk (w V : World) (K p q : Nat) (ss : List ByteArray) (gs : List (Int × Int)) (a0 a1 : Value) : Prop where
  r : Box4 w V a0 a1 27
  k : V.heap[K]? = some (.cells #[.pointer (some ⟨p, 0, none⟩), .pointer (some ⟨q, 0, none⟩)] 48 (0, 0))
  s : TwS V (w.heap.size + 2) p ss
  g : TwG V (w.heap.size + 2) q gs

theorem Bk.step {w V V' : World} {K p q : Nat} {ss : List ByteArray} {gs : List (Int × Int)} {a0 a1 : Value} (h : Bk w V K p q ss gs a0 a1) (hb : Below V.heap.size V V') : Bk w V' K p q ss gs a0 a1 :=
  ⟨(h.r.step hb).out, (keepb h.k hb).out, h.s.below hb, h.g.below hb⟩

/-- What the end of NoteText and SignId leaves. -/
theorem Bk.out {w V V' : World} {K p q : Nat} {ss : List ByteArray} {gs : List (Int × Int)} {a0 a1 : Value} {n m ic jc : Nat} {ia ja : Option Addr} (h : Bk w V K p q ss gs a0 a1) (hn : ss.length = n) (hm : gs.length = m) (hb : Below V.heap.size V V')
    (hr : V.ownsRow (w.heap.size + 2) 9 1 (.slice ia n ic) n (ss.map Value.string) ∧ V.ownsRow (w.heap.size + 2) 53 2 (.slice ja m jc) m (gcells gs)) (i : Int) (v0 v1 v2 v3 : Value) :
    OutL w ((((V'.setCell ⟨w.heap.size + 1, 0, none⟩ v0).setCell ⟨w.heap.size + 1, 1, none⟩ v1).setCell ⟨w.heap.size + 1, 2, none⟩ v2).setCell ⟨w.heap.size + 1, 3, none⟩ v3) (.returned (.agg #[.int .i64 0, .int .i64 i, .slice ia n ic, .slice ja m jc])) ⟨0, i, ss, gs⟩ := by
  subst hn hm
  have r1 := hr.1.kept (grown_of_below hb) (by cases Value.ownBlock (.slice ia ss.length ic) <;> simp)
  have r2 := hr.2.kept (grown_of_below hb) (by cases Value.ownBlock (.slice ja gs.length jc) <;> simp)
  exact ⟨below_res4 (h.r.step hb).out.2.1 _ _ _ _, ia, ic, ja, jc, rfl, row_res4 r1 (by omega) (by omega) _ _ _ _, row_res4 r2 (by omega) (by omega) _ _ _ _⟩

theorem k4 {W : World} {b c : Nat} {v0 v1 v2 v3 : Value} (h : c ≠ b) : ((((W.setCell ⟨b, 0, none⟩ v0).setCell ⟨b, 1, none⟩ v1).setCell ⟨b, 2, none⟩ v2).setCell ⟨b, 3, none⟩ v3).heap[c]? = W.heap[c]? :=
  (Below.heap_setCell _ ⟨b, 3, none⟩ _ c h).trans ((Below.heap_setCell _ ⟨b, 2, none⟩ _ c h).trans ((Below.heap_setCell _ ⟨b, 1, none⟩ _ c h).trans (Below.heap_setCell _ ⟨b, 0, none⟩ _ c h)))

end Go.Proofs.Ytapicejadjeejaa
