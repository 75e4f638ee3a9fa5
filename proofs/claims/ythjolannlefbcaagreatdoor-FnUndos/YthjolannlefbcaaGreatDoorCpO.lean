/- The specification's copy of a ledger whose slices may be nil. -/
import Derived.Test.YthjolannlefbcaaGreatDoorJn1
import Derived.Laws.OwnMore
namespace Go.Proofs.YthjolannlefbcaaGreatDoor
open Go.RowKit Go.Maps Go.WideMaps
attribute [local go_sem ↓] Go.wp_at_zero Go.wp_at_succ

/-- append of what may be nil to a slice of the call's own that is not nil, as one step of a region that draws its order. -/
theorem step_append_opt {P : Program} (w : World) {ops : Array Oper} {o : Oper} {a : Act} {K : Act → World → Prop} {Q : Exit → Act → World → Prop} {E : Prop} (hgd : o.guard = none) (s x : Operand) (t : TypeId)
    (ho : o.op = .call { callee := .builtin .append, args := #[s, x], argTypes := #[t, t] })
    (base : Nat) (e : TypeId) (i : TypeInfo) (z : Value) (size bytes : Nat) (ht : P.underlying t = some (.slice e)) (hi : P.info? e = some i) (hz : i.zero = some z)
    (hsize : i.size = size) (hby : i.bytes = bytes) (hzs : z.cells.size = size) (hsz : 0 < size)
    (g0 c0 : Nat) (n : Nat) (xs : List Value) (hs : a.eval s = .slice (some ⟨g0, 0, none⟩) n c0) (hown : w.ownsRow base e size (.slice (some ⟨g0, 0, none⟩) n c0) n xs)
    (oa : Option Addr) (m c : Nat) (news : List Value) (hx : a.eval x = .slice oa m c) (hl : news.length = m * size) (hnil : oa = none → c = 0) (hsrc : ∀ ad, oa = some ad → ∀ j u, news[j]? = some u → w.cell? (ad.add j) = some u) (hm0 : oa = none → m = 0) (h1 : ∀ u ∈ news, u.oneCell' = true)
    (h63 : n + m ≤ maxLen) (hbytes : (n + m) * bytes ≤ 140737488355328) (hbase : base ≤ w.heap.size)
    (h : ∀ g cap w', w'.ownsRow base e size (.slice (some ⟨g, 0, none⟩) (n + m) cap) (n + m) (xs ++ news) → w.grownBy w' (some g0) → K (a.put o.dst (.slice (some ⟨g, 0, none⟩) (n + m) cap)) w') :
    if Region.wanted o (yielded ops a.tmps) = true then Oper.wp P o a w K Q else E := by
  cases oa with
  | some ad => exact step_append_some w hgd s x t ho base e i z size bytes ht hi hz hsize hby hzs hsz g0 c0 n xs hs hown ad m c news hx hl (hsrc ad rfl) h1 h63 hbytes hbase h
  | none =>
    obtain rfl := hnil rfl
    obtain rfl := hm0 rfl
    obtain rfl : news = [] := List.length_eq_zero_iff.1 (by omega)
    have hw : Region.wanted o (yielded ops a.tmps) = true := by simp [Region.wanted, hgd]
    rw [if_pos hw]
    have hrun := run_append_owned_none (P := P) (w := w) base t o.type e i size ht hi _ n xs hown
    have hk := h g0 c0 w (by simpa using hown) ⟨rfl, rfl, rfl, Nat.le_refl _, fun _ _ _ => rfl⟩
    unfold Oper.wp
    simp only [Nat.add_zero] at hk
    simp [execOp, ho, resolve, invoke, builtin, hs, hx, hrun, Result.andThen]
    exact hk

theorem srcS {w W : World} {ta : Option Addr} {n : Nat} {ss : List ByteArray} (h : SAt w ta n ss) (hb : Below w.heap.size w W) : ∀ ad, ta = some ad → ∀ j u, (ss.map Value.string)[j]? = some u → W.cell? (ad.add j) = some u := by
  intro ad e j u hj
  rcases id h.2 with h0 | ⟨b, off, rfl, _⟩
  · have h1 := h.1
    have := (List.getElem?_eq_some_iff.1 hj).1
    simp at this; omega
  · cases e
    exact news_texts h hb j u hj
theorem srcG {w W : World} {ta : Option Addr} {n : Nat} {gs : List (Int × Int)} (h : GAt w ta n gs) (hb : Below w.heap.size w W) : ∀ ad, ta = some ad → ∀ j u, (gcells gs)[j]? = some u → W.cell? (ad.add j) = some u := by
  intro ad e j u hj
  rcases id h.2 with h0 | ⟨b, off, rfl, _⟩
  · have h1 := h.1
    have := (List.getElem?_eq_some_iff.1 hj).1
    rw [gcells_length] at this; omega
  · cases e
    exact news_signs h hb j u hj
theorem nilS {w : World} {ta : Option Addr} {n : Nat} {ss : List ByteArray} (h : SAt w ta n ss) : ta = none → n = 0 := by
  rintro rfl
  rcases h.2 with h0 | ⟨_, _, e, _⟩
  · exact h0
  · cases e
theorem nilG {w : World} {ta : Option Addr} {n : Nat} {gs : List (Int × Int)} (h : GAt w ta n gs) : ta = none → n = 0 := by
  rintro rfl
  rcases h.2 with h0 | ⟨_, _, e, _⟩
  · exact h0
  · cases e

set_option maxRecDepth 20000 in
set_option maxHeartbeats 2000000 in
theorem l1Copy_opt (ta ga : Option Addr) (n m tc gc : Nat) (ss : List ByteArray) (gs : List (Int × Int)) (w : World) (hn : n ≤ 60) (hm : m ≤ 120) (hta : ta = none → tc = 0) (hga : ga = none → gc = 0) (h : LedAt w ta n ga m ss gs) :
    Calls Tryz.prog 112 #[.agg #[.slice ta n tc, .slice ga m gc]] w fun e w' => ∃ g0 k0 g1 k1, e = .returned (.agg #[.slice (some ⟨g0, 0, none⟩) n k0, .slice (some ⟨g1, 0, none⟩) m k1]) ∧ OwnL w' w.heap.size n m ss gs g0 k0 g1 k1 ∧ Below w.heap.size w w' := by
  obtain ⟨i0, hi, hz0, hz1, hz2⟩ := info_parts Tryz.infoStr
  obtain ⟨i1, hj, hy0, hy1, hy2⟩ := info_parts Tryz.infoSig
  have HL : Hid (LedAt w ta n ga m ss gs) := h
  have hsn : ss.length = n := h.s.1
  have hgn : (gcells gs).length = m * 2 := by rw [gcells_length, h.g.1]
  have HSN : Hid ((ss.map Value.string).length = n * 1) := by show _ = _; simp; omega
  have HGN : Hid ((gcells gs).length = m * 2) := hgn
  have HB1 : Hid (∀ o, Below (w.heap.size + 1 + 1) ((w.alloc (.cells #[.slice ta n tc, .slice ga m gc] 46)).alloc (.cells #[.slice none 0 0, .slice none 0 0] 46)) (((w.alloc (.cells #[.slice ta n tc, .slice ga m gc] 46)).alloc (.cells #[.slice none 0 0, .slice none 0 0] 46)).alloc o).drew) := fun o => ((Below.refl _ _).alloc (by simp) _).drew
  have HB2 : Hid (∀ o o', Below (w.heap.size + 1 + 1) ((w.alloc (.cells #[.slice ta n tc, .slice ga m gc] 46)).alloc (.cells #[.slice none 0 0, .slice none 0 0] 46)) ((((w.alloc (.cells #[.slice ta n tc, .slice ga m gc] 46)).alloc (.cells #[.slice none 0 0, .slice none 0 0] 46)).alloc o).alloc o').drew) := fun o o' => (((Below.refl _ _).alloc (by simp) _).alloc (by simp) _).drew
  have HCB : Hid (∀ W, Below (w.heap.size + 1 + 1) ((w.alloc (.cells #[.slice ta n tc, .slice ga m gc] 46)).alloc (.cells #[.slice none 0 0, .slice none 0 0] 46)) W → Below w.heap.size w W) := fun W hb => copy_below hb
  clear h hsn hgn
  go_enter Tryz.func112, Tryz.ntmps112
  go_wp2
  go_region_held3 (fun w' => w'.cell? ⟨w.heap.size, 0, none⟩ = some (.slice ta n tc) ∧ w'.cell? ⟨w.heap.size, 1, none⟩ = some (.slice ga m gc)) (go_keep)
    (first | (refine step_append_opt _ (by rfl) (.tmp 3) (.tmp 5) 43 (by rfl) (w.heap.size + 1 + 1) 9 i0 (.string ByteArray.empty) 1 16 Tryz.underlying43 hi hz0 hz1 hz2 rfl (by omega) _ _ 0 [] (by rfl) (own_empty (by first | exact heap_at _ _ _ (by simp) | exact heap_at2 _ _ _ _ (by simp) | assumption) (by first | omega | (simp; omega) | simp)) ta n tc (ss.map Value.string) (by rfl) HSN.out hta (srcS HL.out.s (HCB.out _ (by first | exact HB1.out _ | exact HB2.out _ _ | exact hbG | exact hbG.alloc hzG _ | exact hbS | exact hbS.alloc hzS _))) (nilS HL.out.s) one_texts (by unfold maxLen; omega) (by omega) (by first | omega | (simp; omega) | simp) ?_; intro gS kS wS hoS hgS; have hbS : Below (w.heap.size + 1 + 1) ((w.alloc (.cells #[.slice ta n tc, .slice ga m gc] 46)).alloc (.cells #[.slice none 0 0, .slice none 0 0] 46)) wS := Below.grown (by first | exact HB1.out _ | exact HB2.out _ _ | exact hbG | exact hbG.alloc hzG _ | exact hbS | exact hbS.alloc hzS _) hgS (by first | omega | (simp; omega) | simp) (fun k e => by cases e; first | omega | (simp; omega) | simp); obtain ⟨zS0, zS1, hzS, yS0, yS1, yS2, yS3, HRS⟩ := copy_cells hbS; (first | (have hXG : wS.heap[w.heap.size + 1 + 1]? = some (.cells #[] 130 (0, 0)) := (hgS.block _ (by simp) (by simp)).trans (heap_at2 _ _ _ _ (by simp))) | (have hXG : wS.heap[w.heap.size + 1 + 1 + 1]? = some (.cells #[] 130 (0, 0)) := (hgS.block _ (by simp) (by simp)).trans (heap_at _ _ _ (by simp))) | skip); (first | (have hoG2 := keep_row hgS (by first | exact heap_at _ _ _ (by simp) | exact heap_at2 _ _ _ _ (by simp) | assumption) hoG (by decide)) | (have hoG2 := keep_row hgS (by first | exact heap_at _ _ _ (by simp) | exact heap_at2 _ _ _ _ (by simp) | assumption) (hoG.alloc _) (by decide)) | skip)) | (refine step_append_opt _ (by rfl) (.tmp 7) (.tmp 9) 44 (by rfl) (w.heap.size + 1 + 1) 130 i1 (.agg #[.int .i64 0, .int .i64 0]) 2 16 Tryz.underlying44 hj hy0 hy1 hy2 rfl (by omega) _ _ 0 [] (by rfl) (own_empty (by first | exact heap_at _ _ _ (by simp) | exact heap_at2 _ _ _ _ (by simp) | assumption) (by first | omega | (simp; omega) | simp)) ga m gc (gcells gs) (by rfl) HGN.out hga (srcG HL.out.g (HCB.out _ (by first | exact HB1.out _ | exact HB2.out _ _ | exact hbG | exact hbG.alloc hzG _ | exact hbS | exact hbS.alloc hzS _))) (nilG HL.out.g) one_signs (by unfold maxLen; omega) (by omega) (by first | omega | (simp; omega) | simp) ?_; intro gG kG wG hoG hgG; have hbG : Below (w.heap.size + 1 + 1) ((w.alloc (.cells #[.slice ta n tc, .slice ga m gc] 46)).alloc (.cells #[.slice none 0 0, .slice none 0 0] 46)) wG := Below.grown (by first | exact HB1.out _ | exact HB2.out _ _ | exact hbG | exact hbG.alloc hzG _ | exact hbS | exact hbS.alloc hzS _) hgG (by first | omega | (simp; omega) | simp) (fun k e => by cases e; first | omega | (simp; omega) | simp); obtain ⟨zG0, zG1, hzG, yG0, yG1, yG2, yG3, HRG⟩ := copy_cells hbG; (first | (have hXS : wG.heap[w.heap.size + 1 + 1]? = some (.cells #[] 9 (0, 0)) := (hgG.block _ (by simp) (by simp)).trans (heap_at2 _ _ _ _ (by simp))) | (have hXS : wG.heap[w.heap.size + 1 + 1 + 1]? = some (.cells #[] 9 (0, 0)) := (hgG.block _ (by simp) (by simp)).trans (heap_at _ _ _ (by simp))) | skip); (first | (have hoS2 := keep_row hgG (by first | exact heap_at _ _ _ (by simp) | exact heap_at2 _ _ _ _ (by simp) | assumption) hoS (by decide)) | (have hoS2 := keep_row hgG (by first | exact heap_at _ _ _ (by simp) | exact heap_at2 _ _ _ _ (by simp) | assumption) (hoS.alloc _) (by decide)) | skip)))
  all_goals
    go_wp2
    obtain ⟨s0, s1, s2⟩ := two_set HRG.out (.slice (some ⟨gS, 0, none⟩) n kS) (.slice (some ⟨gG, 0, none⟩) m kG)
    simp only [Nat.zero_add, List.nil_append] at hoS2 hoG
    refine bodyPost_ret (v := .agg #[.slice (some ⟨gS, 0, none⟩) n kS, .slice (some ⟨gG, 0, none⟩) m kG]) (by simp [results, Tryz.results112, go_sem, s0, s1]) rfl ⟨gS, kS, gG, kG, rfl, ⟨?_, ?_⟩, below_res (HCB.out _ hbG) _ _⟩
    · exact Joins.ownsRow_le (ownsRow_setCell_below (ownsRow_setCell_below hoS2 (a := ⟨w.heap.size + 1, 0, none⟩) (show w.heap.size + 1 < _ by omega) _) (a := ⟨w.heap.size + 1, 1, none⟩) (show w.heap.size + 1 < _ by omega) _) (by omega)
    · exact Joins.ownsRow_le (ownsRow_setCell_below (ownsRow_setCell_below hoG (a := ⟨w.heap.size + 1, 0, none⟩) (show w.heap.size + 1 < _ by omega) _) (a := ⟨w.heap.size + 1, 1, none⟩) (show w.heap.size + 1 < _ by omega) _) (by omega)

end Go.Proofs.YthjolannlefbcaaGreatDoor
