/- The specification's copy of a ledger; the program's tables handed out as a ledger. The specification's copy of a ledger: two rows of new memory. What a result with a ledger is, and what the specification's NoteText answers. -/
import Derived.Test.YtocgmgcjbmipnaaMk
import Derived.Test.YtocgmgcjbmipnaaTextOf
import Derived.Deep.RegionLaw
namespace Go.Proofs.Ytocgmgcjbmipnaa
open Go.RowKit Go.Maps Go.WideMaps
attribute [local go_sem ↓] Go.wp_at_zero Go.wp_at_succ

/-- append to a slice of the call's own that is not nil, as one step of a region that draws its order: the new slice written out. -/
theorem step_append_some {P : Program} (w : World) {ops : Array Oper} {o : Oper} {a : Act} {K : Act → World → Prop} {Q : Exit → Act → World → Prop} {E : Prop} (hgd : o.guard = none) (s x : Operand) (t : TypeId)
    (ho : o.op = .call { callee := .builtin .append, args := #[s, x], argTypes := #[t, t] })
    (base : Nat) (e : TypeId) (i : TypeInfo) (z : Value) (size bytes : Nat) (ht : P.underlying t = some (.slice e)) (hi : P.info? e = some i) (hz : i.zero = some z)
    (hsize : i.size = size) (hby : i.bytes = bytes) (hzs : z.cells.size = size) (hsz : 0 < size)
    (g0 c0 : Nat) (n : Nat) (xs : List Value) (hs : a.eval s = .slice (some ⟨g0, 0, none⟩) n c0) (hown : w.ownsRow base e size (.slice (some ⟨g0, 0, none⟩) n c0) n xs)
    (ad : Addr) (m c : Nat) (news : List Value) (hx : a.eval x = .slice (some ad) m c) (hl : news.length = m * size) (hnews : ∀ j u, news[j]? = some u → w.cell? (ad.add j) = some u) (h1 : ∀ u ∈ news, u.oneCell' = true)
    (h63 : n + m ≤ maxLen) (hbytes : (n + m) * bytes ≤ 140737488355328) (hbase : base ≤ w.heap.size)
    (h : ∀ g cap w', w'.ownsRow base e size (.slice (some ⟨g, 0, none⟩) (n + m) cap) (n + m) (xs ++ news) → w.grownBy w' (some g0) → K (a.put o.dst (.slice (some ⟨g, 0, none⟩) (n + m) cap)) w') :
    if Region.wanted o (yielded ops a.tmps) = true then Oper.wp P o a w K Q else E := by
  have hw : Region.wanted o (yielded ops a.tmps) = true := by simp [Region.wanted, hgd]
  rw [if_pos hw]
  refine wp_append_own w s x t ho base e i z size bytes ht hi hz hsize hby hzs hsz _ n xs hs hown ad m c news hx hl hnews h1 h63 hbytes hbase fun v' w' r1 r2 r3 => ?_
  rcases id r1.2 with ⟨e1, _⟩ | ⟨g, cap, cur, e1, _⟩
  · have := r3.1 e1; simp at this
  · subst e1
    exact h g cap w' r1 r2

/-- An empty row that has just been laid is owned. -/
theorem own_empty {W : World} {base X : Nat} {t : TypeId} {size : Nat} (h : W.heap[X]? = some (.cells #[] t (0, 0))) (hb : base ≤ X) : W.ownsRow base t size (.slice (some ⟨X, 0, none⟩) 0 0) 0 [] :=
  ⟨by simp, .inr ⟨X, 0, #[], rfl, hb, h, Nat.le_refl _, by unfold maxLen; omega, by simp, by simp⟩⟩

theorem keep_row {W W' : World} {X base n : Nat} {t e : TypeId} {size : Nat} {v : Value} {xs : List Value} {cur : Array Value} (hg : W.grownBy W' (some X)) (hX : W.heap[X]? = some (.cells cur t (0, 0))) (ho : W.ownsRow base e size v n xs) (hne : t ≠ e) : W'.ownsRow base e size v n xs := by
  refine ho.kept hg ?_
  rcases id ho.2 with ⟨rfl, _⟩ | ⟨g, c, cur', rfl, _, hh, _⟩
  · exact .inl rfl
  · right
    simp only [Value.ownBlock, ne_eq, Option.some.injEq]
    rintro rfl
    rw [hX] at hh
    simp at hh
    exact hne hh.2

theorem news_texts {w W : World} {b0 o0 n : Nat} {ss : List ByteArray} (h : SAt w (some ⟨b0, o0, none⟩) n ss) (hb : Below w.heap.size w W) : ∀ j u, (ss.map Value.string)[j]? = some u → W.cell? ((⟨b0, o0, none⟩ : Addr).add j) = some u := by
  intro j u hj
  have hjl : j < ss.length := by have := (List.getElem?_eq_some_iff.1 hj).1; simpa using this
  have hh := (h.below hb (Nat.le_refl _))
  rcases hh.2 with h0 | ⟨b, off, e, _, hc⟩
  · have := h.1; omega
  · simp at e
    obtain ⟨rfl, rfl⟩ := e
    have h1 : (⟨b0, o0, none⟩ : Addr).add j = ⟨b0, o0 + j, none⟩ := by
      simp only [Addr.add]
      split
      · simp_all
      · rfl
    rw [h1, hc j (by have := h.1; omega)]
    simp [hjl] at hj
    rw [← hj]
    simp [List.getD, hjl]

theorem news_signs {w W : World} {b0 o0 n : Nat} {gs : List (Int × Int)} (h : GAt w (some ⟨b0, o0, none⟩) n gs) (hb : Below w.heap.size w W) : ∀ j u, (gcells gs)[j]? = some u → W.cell? ((⟨b0, o0, none⟩ : Addr).add j) = some u := by
  intro j u hj
  have hjl : j < gs.length * 2 := by have := (List.getElem?_eq_some_iff.1 hj).1; rwa [gcells_length] at this
  have hh := (h.below hb (Nat.le_refl _))
  rcases hh.2 with h0 | ⟨b, off, e, _, hc⟩
  · have := h.1; omega
  · simp at e
    obtain ⟨rfl, rfl⟩ := e
    have h1 : (⟨b0, o0, none⟩ : Addr).add j = ⟨b0, o0 + j, none⟩ := by
      simp only [Addr.add]
      split
      · simp_all
      · rfl
    have hd := hc (j / 2) (by have := h.1; omega)
    have ha := gcells_at gs (j / 2) (by omega)
    rw [h1]
    rcases Nat.mod_two_eq_zero_or_one j with e | e
    · have ej : j = j / 2 * 2 := by omega
      rw [ej] at hj ⊢
      rw [ha.1] at hj
      rw [hd.1, hj]
    · have ej : j = j / 2 * 2 + 1 := by omega
      rw [ej] at hj ⊢
      rw [ha.2] at hj
      rw [← Nat.add_assoc, hd.2, hj]

theorem one_texts {ss : List ByteArray} : ∀ u ∈ ss.map Value.string, u.oneCell' = true := by
  intro u hu
  simp at hu
  obtain ⟨s, _, rfl⟩ := hu
  rfl
theorem one_signs {gs : List (Int × Int)} : ∀ u ∈ gcells gs, u.oneCell' = true := by
  intro u hu
  simp [gcells] at hu
  obtain ⟨a, b, _, rfl | rfl⟩ := hu <;> rfl

end Go.Proofs.Ytocgmgcjbmipnaa

namespace Go.Proofs.Ytocgmgcjbmipnaa
open Go.RowKit Go.Maps Go.WideMaps
attribute [local go_sem ↓] Go.wp_at_zero Go.wp_at_succ

theorem heap_at (w : World) (o : Obj) (n : Nat) (h : n = w.heap.size) : (w.alloc o).heap[n]? = some o := by rw [h]; exact heap_alloc_new w o
theorem heap_at2 (w : World) (o o' : Obj) (n : Nat) (h : n = w.heap.size) : ((w.alloc o).alloc o').heap[n]? = some o := by rw [h]; exact block_at2

theorem copy_below {w W : World} {o o' : Obj} (hb : Below (w.heap.size + 1 + 1) ((w.alloc o).alloc o') W) : Below w.heap.size w W := (below_box2 _ _).trans (hb.mono (by omega))
theorem copy_cells {w W : World} {a0 a1 c0 c1 : Value} {t t' : TypeId} (hb : Below (w.heap.size + 1 + 1) ((w.alloc (.cells #[a0, a1] t)).alloc (.cells #[c0, c1] t')) W) : W.cell? ⟨w.heap.size, 0, none⟩ = some a0 ∧ W.cell? ⟨w.heap.size, 1, none⟩ = some a1 ∧ w.heap.size + 1 + 1 ≤ W.heap.size ∧
    W.cell? ⟨w.heap.size + 1, 0, none⟩ = some c0 ∧ W.cell? ⟨w.heap.size + 1, 1, none⟩ = some c1 ∧ W.frozen? ⟨w.heap.size + 1, 0, none⟩ = false ∧ W.frozen? ⟨w.heap.size + 1, 1, none⟩ = false ∧ Hid (W.heap[w.heap.size + 1]? = some (.cells #[c0, c1] t' (0, 0))) := by
  have hh := (hb.block w.heap.size (by omega)).trans (block_at2 (w := w) (o := .cells #[a0, a1] t) (o' := .cells #[c0, c1] t'))
  have h1 : ((w.alloc (.cells #[a0, a1] t)).alloc (.cells #[c0, c1] t')).heap[w.heap.size + 1]? = some (.cells #[c0, c1] t' (0, 0)) := heap_at _ _ _ (by simp)
  have hh1 := (hb.block (w.heap.size + 1) (by omega)).trans h1
  have hs := hb.size
  simp only [World.size_alloc] at hs
  exact ⟨by unfold World.cell?; rw [hh]; rfl, by unfold World.cell?; rw [hh]; rfl, hs, by unfold World.cell?; rw [hh1]; rfl, by unfold World.cell?; rw [hh1]; rfl, Joins.unfrozen_of_block hh1 0, Joins.unfrozen_of_block hh1 1, hh1⟩

set_option maxRecDepth 20000 in
set_option maxHeartbeats 2000000 in
theorem l1Copy_any (b0 o0 b1 o1 n m tc gc : Nat) (ss : List ByteArray) (gs : List (Int × Int)) (w : World) (hn : n ≤ 60) (hm : m ≤ 120) (h : LedAt w (some ⟨b0, o0, none⟩) n (some ⟨b1, o1, none⟩) m ss gs) :
    Calls Try.prog 17 #[.agg #[.slice (some ⟨b0, o0, none⟩) n tc, .slice (some ⟨b1, o1, none⟩) m gc]] w fun e w' => ∃ g0 k0 g1 k1, e = .returned (.agg #[.slice (some ⟨g0, 0, none⟩) n k0, .slice (some ⟨g1, 0, none⟩) m k1]) ∧ OwnL w' w.heap.size n m ss gs g0 k0 g1 k1 ∧ Below w.heap.size w w' := by
  obtain ⟨i0, hi, hz0, hz1, hz2⟩ := info_parts Try.infoStr
  obtain ⟨i1, hj, hy0, hy1, hy2⟩ := info_parts Try.infoSig
  have HL : Hid (LedAt w (some ⟨b0, o0, none⟩) n (some ⟨b1, o1, none⟩) m ss gs) := h
  have hsn : ss.length = n := h.s.1
  have hgn : (gcells gs).length = m * 2 := by rw [gcells_length, h.g.1]
  have HSN : Hid ((ss.map Value.string).length = n * 1) := by show _ = _; simp; omega
  have HGN : Hid ((gcells gs).length = m * 2) := hgn
  have HB1 : Hid (∀ o, Below (w.heap.size + 1 + 1) ((w.alloc (.cells #[.slice (some ⟨b0, o0, none⟩) n tc, .slice (some ⟨b1, o1, none⟩) m gc] 29)).alloc (.cells #[.slice none 0 0, .slice none 0 0] 29)) (((w.alloc (.cells #[.slice (some ⟨b0, o0, none⟩) n tc, .slice (some ⟨b1, o1, none⟩) m gc] 29)).alloc (.cells #[.slice none 0 0, .slice none 0 0] 29)).alloc o).drew) := fun o => ((Below.refl _ _).alloc (by simp) _).drew
  have HB2 : Hid (∀ o o', Below (w.heap.size + 1 + 1) ((w.alloc (.cells #[.slice (some ⟨b0, o0, none⟩) n tc, .slice (some ⟨b1, o1, none⟩) m gc] 29)).alloc (.cells #[.slice none 0 0, .slice none 0 0] 29)) ((((w.alloc (.cells #[.slice (some ⟨b0, o0, none⟩) n tc, .slice (some ⟨b1, o1, none⟩) m gc] 29)).alloc (.cells #[.slice none 0 0, .slice none 0 0] 29)).alloc o).alloc o').drew) := fun o o' => (((Below.refl _ _).alloc (by simp) _).alloc (by simp) _).drew
  have HCB : Hid (∀ W, Below (w.heap.size + 1 + 1) ((w.alloc (.cells #[.slice (some ⟨b0, o0, none⟩) n tc, .slice (some ⟨b1, o1, none⟩) m gc] 29)).alloc (.cells #[.slice none 0 0, .slice none 0 0] 29)) W → Below w.heap.size w W) := fun W hb => copy_below hb
  clear h hsn hgn
  go_enter Try.func17, Try.ntmps17
  go_wp2
  go_region_held3 (fun w' => w'.cell? ⟨w.heap.size, 0, none⟩ = some (.slice (some ⟨b0, o0, none⟩) n tc) ∧ w'.cell? ⟨w.heap.size, 1, none⟩ = some (.slice (some ⟨b1, o1, none⟩) m gc)) (go_keep)
    (first | (refine step_append_some _ (by rfl) (.tmp 3) (.tmp 5) 22 (by rfl) (w.heap.size + 1 + 1) 9 i0 (.string ByteArray.empty) 1 16 Try.underlying22 hi hz0 hz1 hz2 rfl (by omega) _ _ 0 [] (by rfl) (own_empty (by first | exact heap_at _ _ _ (by simp) | exact heap_at2 _ _ _ _ (by simp) | assumption) (by first | omega | (simp; omega) | simp)) ⟨b0, o0, none⟩ n tc (ss.map Value.string) (by rfl) HSN.out (news_texts HL.out.s (HCB.out _ (by first | exact HB1.out _ | exact HB2.out _ _ | exact hbG | exact hbG.alloc hzG _ | exact hbS | exact hbS.alloc hzS _))) one_texts (by unfold maxLen; omega) (by omega) (by first | omega | (simp; omega) | simp) ?_; intro gS kS wS hoS hgS; have hbS : Below (w.heap.size + 1 + 1) ((w.alloc (.cells #[.slice (some ⟨b0, o0, none⟩) n tc, .slice (some ⟨b1, o1, none⟩) m gc] 29)).alloc (.cells #[.slice none 0 0, .slice none 0 0] 29)) wS := Below.grown (by first | exact HB1.out _ | exact HB2.out _ _ | exact hbG | exact hbG.alloc hzG _ | exact hbS | exact hbS.alloc hzS _) hgS (by first | omega | (simp; omega) | simp) (fun k e => by cases e; first | omega | (simp; omega) | simp); obtain ⟨zS0, zS1, hzS, yS0, yS1, yS2, yS3, HRS⟩ := copy_cells hbS; (first | (have hXG : wS.heap[w.heap.size + 1 + 1]? = some (.cells #[] 71 (0, 0)) := (hgS.block _ (by simp) (by simp)).trans (heap_at2 _ _ _ _ (by simp))) | (have hXG : wS.heap[w.heap.size + 1 + 1 + 1]? = some (.cells #[] 71 (0, 0)) := (hgS.block _ (by simp) (by simp)).trans (heap_at _ _ _ (by simp))) | skip); (first | (have hoG2 := keep_row hgS (by first | exact heap_at _ _ _ (by simp) | exact heap_at2 _ _ _ _ (by simp) | assumption) hoG (by decide)) | (have hoG2 := keep_row hgS (by first | exact heap_at _ _ _ (by simp) | exact heap_at2 _ _ _ _ (by simp) | assumption) (hoG.alloc _) (by decide)) | skip)) | (refine step_append_some _ (by rfl) (.tmp 7) (.tmp 9) 27 (by rfl) (w.heap.size + 1 + 1) 71 i1 (.agg #[.int .i64 0, .int .i64 0]) 2 16 Try.underlying27 hj hy0 hy1 hy2 rfl (by omega) _ _ 0 [] (by rfl) (own_empty (by first | exact heap_at _ _ _ (by simp) | exact heap_at2 _ _ _ _ (by simp) | assumption) (by first | omega | (simp; omega) | simp)) ⟨b1, o1, none⟩ m gc (gcells gs) (by rfl) HGN.out (news_signs HL.out.g (HCB.out _ (by first | exact HB1.out _ | exact HB2.out _ _ | exact hbG | exact hbG.alloc hzG _ | exact hbS | exact hbS.alloc hzS _))) one_signs (by unfold maxLen; omega) (by omega) (by first | omega | (simp; omega) | simp) ?_; intro gG kG wG hoG hgG; have hbG : Below (w.heap.size + 1 + 1) ((w.alloc (.cells #[.slice (some ⟨b0, o0, none⟩) n tc, .slice (some ⟨b1, o1, none⟩) m gc] 29)).alloc (.cells #[.slice none 0 0, .slice none 0 0] 29)) wG := Below.grown (by first | exact HB1.out _ | exact HB2.out _ _ | exact hbG | exact hbG.alloc hzG _ | exact hbS | exact hbS.alloc hzS _) hgG (by first | omega | (simp; omega) | simp) (fun k e => by cases e; first | omega | (simp; omega) | simp); obtain ⟨zG0, zG1, hzG, yG0, yG1, yG2, yG3, HRG⟩ := copy_cells hbG; (first | (have hXS : wG.heap[w.heap.size + 1 + 1]? = some (.cells #[] 9 (0, 0)) := (hgG.block _ (by simp) (by simp)).trans (heap_at2 _ _ _ _ (by simp))) | (have hXS : wG.heap[w.heap.size + 1 + 1 + 1]? = some (.cells #[] 9 (0, 0)) := (hgG.block _ (by simp) (by simp)).trans (heap_at _ _ _ (by simp))) | skip); (first | (have hoS2 := keep_row hgG (by first | exact heap_at _ _ _ (by simp) | exact heap_at2 _ _ _ _ (by simp) | assumption) hoS (by decide)) | (have hoS2 := keep_row hgG (by first | exact heap_at _ _ _ (by simp) | exact heap_at2 _ _ _ _ (by simp) | assumption) (hoS.alloc _) (by decide)) | skip)))
  all_goals
    go_wp2
    obtain ⟨s0, s1, s2⟩ := two_set HRG.out (.slice (some ⟨gS, 0, none⟩) n kS) (.slice (some ⟨gG, 0, none⟩) m kG)
    simp only [Nat.zero_add, List.nil_append] at hoS2 hoG
    refine bodyPost_ret (v := .agg #[.slice (some ⟨gS, 0, none⟩) n kS, .slice (some ⟨gG, 0, none⟩) m kG]) (by simp [results, Try.results17, go_sem, s0, s1]) rfl ⟨gS, kS, gG, kG, rfl, ⟨?_, ?_⟩, below_res (HCB.out _ hbG) _ _⟩
    · exact Joins.ownsRow_le (ownsRow_setCell_below (ownsRow_setCell_below hoS2 (a := ⟨w.heap.size + 1, 0, none⟩) (show w.heap.size + 1 < _ by omega) _) (a := ⟨w.heap.size + 1, 1, none⟩) (show w.heap.size + 1 < _ by omega) _) (by omega)
    · exact Joins.ownsRow_le (ownsRow_setCell_below (ownsRow_setCell_below hoG (a := ⟨w.heap.size + 1, 0, none⟩) (show w.heap.size + 1 < _ by omega) _) (a := ⟨w.heap.size + 1, 1, none⟩) (show w.heap.size + 1 < _ by omega) _) (by omega)

end Go.Proofs.Ytocgmgcjbmipnaa

namespace Go.Proofs.Ytocgmgcjbmipnaa
open Go.RowKit Go.Maps Go.WideMaps

structure LRes where
  c : Int
  i : Int
  s : List ByteArray
  g : List (Int × Int)


end Go.Proofs.Ytocgmgcjbmipnaa
