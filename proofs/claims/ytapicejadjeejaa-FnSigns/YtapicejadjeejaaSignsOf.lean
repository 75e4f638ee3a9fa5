/- What SignsOf answers: the specification's and the program's. What the specification's SignsOf answers. The marks of lists of numbers, and results that hold one compared. -/
import Derived.Test.YtapicejadjeejaaTextOf
import Derived.Test.YtapicejadjeejaaMk
import Derived.Deep.RegionLaw
namespace Go.Proofs.Ytapicejadjeejaa
open Go.RowKit Go.Maps Go.WideMaps
attribute [local go_sem ↓] Go.wp_at_zero Go.wp_at_succ

theorem Try.infoI64 : (Try.prog.info? 2).map (fun i => (i.zero, i.size, i.bytes)) = some (some (.int .i64 0), 1, 8) := by kernel_rfl

/-- The keys of the first k signatures that signed id. -/
def selK (gs : List (Int × Int)) (id : Int) (k : Nat) : List Int := ((gs.take k).filter fun g => g.2 == id).map Prod.fst

theorem selK_le (gs : List (Int × Int)) (id : Int) (k : Nat) : (selK gs id k).length ≤ k := by
  unfold selK
  rw [List.length_map]
  exact Nat.le_trans (List.length_filter_le _ _) (List.length_take_le _ _)
theorem selK_hit {gs : List (Int × Int)} {id g1 : Int} {n k : Nat} (hn : gs.length = n) (hlt : k < n) (hg : (g1, id) = gs.getD k G0) : selK gs id (k + 1) = selK gs id k ++ [g1] := by
  unfold selK
  rw [take_snoc gs G0 k (by omega), ← hg]
  simp
theorem selK_miss {gs : List (Int × Int)} {id g1 g2 : Int} {n k : Nat} (hn : gs.length = n) (hlt : k < n) (hg : (g1, g2) = gs.getD k G0) (h : ¬ g2 = id) : selK gs id (k + 1) = selK gs id k := by
  unfold selK
  rw [take_snoc gs G0 k (by omega), ← hg]
  simp [h]

/-- Code and keys. -/
def signsR (ss : List ByteArray) (gs : List (Int × Int)) (id : Int) : Int × List Int := if flt ss gs ≠ 0 then (flt ss gs, []) else if inB id 1 ss.length = false then (3, []) else (0, selK gs id gs.length)
theorem signsR_bad {ss : List ByteArray} {gs : List (Int × Int)} {id : Int} {c : Int} (h : c = flt ss gs) (h0 : c ≠ 0) : signsR ss gs id = (c, []) := by unfold signsR; rw [← h, if_pos h0]
theorem signsR_none {ss : List ByteArray} {gs : List (Int × Int)} {id : Int} {n : Nat} (hn : ss.length = n) (h : 0 = flt ss gs) (h0 : inB id 1 n = false) : signsR ss gs id = (3, []) := by unfold signsR; rw [← h, if_neg (by simp), hn, if_pos h0]
theorem signsR_ok {ss : List ByteArray} {gs : List (Int × Int)} {id : Int} {n m : Nat} (hn : ss.length = n) (hm : gs.length = m) (h : 0 = flt ss gs) (h0 : inB id 1 n = true) : signsR ss gs id = (0, selK gs id m) := by unfold signsR; rw [← h, if_neg (by simp), hn, if_neg (by rw [h0]; simp), hm]

def ints (l : List Int) : List Value := l.map (Value.int .i64)

/-- What a result with a list of numbers is: its list lies in new memory. -/
def OutI (w w' : World) (e : Ending) (c : Int) (l : List Int) : Prop :=
  Below w.heap.size w w' ∧ ∃ a cap, e = .returned (.agg #[.int .i64 c, .slice a l.length cap]) ∧ w'.ownsRow w.heap.size 2 1 (.slice a l.length cap) l.length (ints l)

theorem OutI.empty {w w' : World} {c : Int} (h : Below w.heap.size w w') : OutI w w' (.returned (.agg #[.int .i64 c, .slice none 0 0])) c [] := ⟨h, none, 0, rfl, World.ownsRow_nil _ _ _ _⟩

theorem twg_items {w2 : World} {base p : Nat} {gs : List (Int × Int)} {n : Nat} {o : Obj} (hn : gs.length = n) (h : TwG w2 base p gs) : ∃ a cap, (w2.alloc o).cell? ⟨p, 0, none⟩ = some (.slice a n cap) ∧ Hid (GAt (w2.alloc o) a n gs) := by
  obtain ⟨a, cap, h1, _, _, h2⟩ := (h.below (below_box o)).items
  rw [hn] at h1 h2
  exact ⟨a, cap, h1, h2⟩

theorem news1 {W : World} {H : Nat} {u : Value} {t : TypeId} (h : W.heap[H]? = some (.cells #[u] t (0, 0))) : ∀ j v, [u][j]? = some v → W.cell? ((⟨H, 0, none⟩ : Addr).add j) = some v := by
  intro j v hj
  match j, hj with
  | 0, hj => simp at hj; subst hj; simp [Addr.add, World.cell?, h]
theorem one1 {a : Int} : ∀ u ∈ [Value.int .i64 a], u.oneCell' = true := by
  intro u hu
  simp at hu
  subst hu; rfl
theorem heap_alloc_at (w : World) (o : Obj) (n : Nat) (h : n = w.heap.size) : (w.alloc o).heap[n]? = some o := by rw [h]; exact heap_alloc_new w o

set_option maxRecDepth 20000 in
set_option maxHeartbeats 1000000 in
theorem iSignsOf_any (n m tc gc : Nat) (ta ga : Option Addr) (ss : List ByteArray) (gs : List (Int × Int)) (id : Int) (w : World) (hf : Fine ss gs) (h : LedAt w ta n ga m ss gs) :
    Calls Try.prog 10 #[.agg #[.slice ta n tc, .slice ga m gc], .int .i64 id] w fun e w' => OutI w w' e (signsR ss gs id).1 (signsR ss gs id).2 := by
  obtain ⟨c, hc⟩ : ∃ c, c = flt ss gs := ⟨_, rfl⟩
  have HN : Hid (ss.length = n) := h.s.1
  have HM : Hid (gs.length = m) := h.g.1
  by_cases hcz : c = 0
  · subst hcz
    have hrd := read_ok (tc := tc) (gc := gc) (b0 := .int .i64 0) (b1 := .slice none 0 0) (t' := 37) hf h hc
    have hm120 : m ≤ 120 := by have := flt_le hc; rw [HM.out] at this; omega
    clear h hf
    by_cases hi : inB id 1 n = true
    · rw [signsR_ok HN.out HM.out hc hi]
      have HI : Hid (inB id 1 n = true) := hi
      clear hc hi
      obtain ⟨i0, hi0, hz0, hz1, hz2⟩ := info_parts Try.infoI64
      go_enter Try.func10, Try.ntmps10
      go_wp2_with (first
        | (go_at_call 16; refine hrd.mono ?_; rintro e w2 ⟨p, q, top, rfl, hb2, HT⟩; obtain ⟨p0, p1, q0, q1, q2, q3, HB⟩ := box2_facts hb2; obtain ⟨r0, r1, r2, r3, HR⟩ := box2_more (o := .cells #[.pointer (some ⟨p, 0, none⟩), .pointer (some ⟨q, 0, none⟩)] 48) ⟨HB.out.1, HB.out.2.1⟩; obtain ⟨ia, ic, hI, HSA⟩ := tw_items (o := .cells #[.pointer (some ⟨p, 0, none⟩), .pointer (some ⟨q, 0, none⟩)] 48) HN.out HT.out.1; have hat := hasNumber_any p n ic ia id _ hI; rw [HI.out] at hat; obtain ⟨ja, jc, hJ, HGA⟩ := twg_items (o := .cells #[.pointer (some ⟨p, 0, none⟩), .pointer (some ⟨q, 0, none⟩)] 48) HM.out HT.out.2.2.1; clear p0 p1 q0 q1 q2 q3 hb2 hI)
        | (go_at_call 18; refine hat.mono ?_; rintro e w3 ⟨rfl, hw⟩; subst hw))
      clear hrd hat hJ
      have HB0 : Hid (Below (w2.heap.size + 1) (w2.alloc (.cells #[.pointer (some ⟨p, 0, none⟩), .pointer (some ⟨q, 0, none⟩)] 48)) (w2.alloc (.cells #[.pointer (some ⟨p, 0, none⟩), .pointer (some ⟨q, 0, none⟩)] 48))) := Below.refl _ _
      go_loopw [7, 31] (fun v i wr => ∃ k : Nat, k ≤ m ∧ i = .int .i64 k ∧ Hid (Below (w2.heap.size + 1) (w2.alloc (.cells #[.pointer (some ⟨p, 0, none⟩), .pointer (some ⟨q, 0, none⟩)] 48)) wr) ∧ ∃ a cap, v = .slice a (selK gs id k).length cap ∧ Hid (wr.ownsRow (w2.heap.size + 1) 2 1 (.slice a (selK gs id k).length cap) (selK gs id k).length (ints (selK gs id k)))) (fun _ i _ => m - (intOf i).toNat)
      case atStart => exact ⟨0, Nat.zero_le _, rfl, HB0, none, 0, rfl, World.ownsRow_nil _ _ _ _⟩
      case round =>
        obtain ⟨k, hk, rfl, hbel, a, cap, rfl, HO⟩ := hrel
        clear HB0
        by_cases hlt : k < m
        · rcases HGA.out.2 with h0 | ⟨b, off, ha, hb, hcl⟩
          · omega
          subst ha
          obtain ⟨g, hg⟩ : ∃ g, g = gs.getD k G0 := ⟨_, rfl⟩
          have hcx := hcl k hlt
          rw [← hg] at hcx
          obtain ⟨g1, g2⟩ := g
          have c0 := (hbel.out.cell (p := ⟨b, off + k * 2, none⟩) (by simpa using hb)).trans hcx.1
          have c1 := (hbel.out.cell (p := ⟨b, off + k * 2 + 1, none⟩) (by simpa using hb)).trans hcx.2
          have HG : Hid ((g1, g2) = gs.getD k G0) := hg
          have hsl := selK_le gs id k
          have hbsz := hbel.out.size
          simp only [World.size_alloc] at hbsz
          clear hg hcl hcx
          by_cases hid : g2 = id
          · subst hid
            go_wp2_with (first
              | (at_builtin; go_must (refine wpList_append_lies _ (by rfl) _ _ 35 (by rfl) (w2.heap.size + 1) 2 i0 (.int .i64 0) 1 8 Try.underlying35 hi0 hz0 hz1 hz2 rfl (by omega) (.slice a (selK gs g2 k).length cap) (selK gs g2 k).length (ints (selK gs g2 k)) (by rfl) ((HO.out.alloc _).alloc _) ⟨wr.heap.size + 1, 0, none⟩ 1 1 [.int .i64 g1] (by rfl) (by rfl) (news1 (by first | exact heap_alloc_at _ _ _ (by simp) | simp)) one1 (by omega) (by unfold maxLen; omega) (by omega) (by simp; omega) (wr.heap.size + 2) (by simp) ?_)))
            intro g cap' w3 ho3 hg3 hat hlt3
            have R1 : Hid (Below (w2.heap.size + 1) (w2.alloc (.cells #[.pointer (some ⟨p, 0, none⟩), .pointer (some ⟨q, 0, none⟩)] 48)) w3) := ((hbel.out.alloc (by omega) _).alloc (by simp; omega) _).grown hg3 (by simp; omega) (fun j hj => (HO.out.lt j hj).1)
            have R2 := selK_hit HM.out hlt HG.out
            have R3 : Hid (w3.ownsRow (w2.heap.size + 1) 2 1 (.slice (some ⟨g, 0, none⟩) (selK gs g2 (k + 1)).length cap') (selK gs g2 (k + 1)).length (ints (selK gs g2 (k + 1)))) := by
              have e1 : (selK gs g2 (k + 1)).length = (selK gs g2 k).length + 1 := by rw [R2]; simp
              have e2 : ints (selK gs g2 (k + 1)) = ints (selK gs g2 k) ++ [.int .i64 g1] := by rw [R2]; simp [ints]
              rw [e1, e2]
              exact ho3
            have R4 : (selK gs g2 k).length + 1 = (selK gs g2 (k + 1)).length := by rw [R2]; simp
            have HR4 : Hid ((selK gs g2 k).length + 1 = (selK gs g2 (k + 1)).length) := R4
            clear ho3 hg3 hat HO R2 R4
            go_wp2
            go_roundw
            case rel => exact ⟨k + 1, by omega, by go_num, R1, some ⟨g, 0, none⟩, cap', by rw [← HR4.out], R3⟩
            case measure => simp [intOf]; omega
          · have hne : (g2 == id) = false := by simp [hid]
            have R2 := selK_miss HM.out hlt HG.out hid
            have R1 : Hid (Below (w2.heap.size + 1) (w2.alloc (.cells #[.pointer (some ⟨p, 0, none⟩), .pointer (some ⟨q, 0, none⟩)] 48)) (wr.alloc (.cells #[.int .i64 g1, .int .i64 g2] 53))) := hbel.out.alloc (by omega) _
            have R3 : Hid ((wr.alloc (.cells #[.int .i64 g1, .int .i64 g2] 53)).ownsRow (w2.heap.size + 1) 2 1 (.slice a (selK gs id (k + 1)).length cap) (selK gs id (k + 1)).length (ints (selK gs id (k + 1)))) := by rw [R2]; exact HO.out.alloc _
            have HR2 : Hid (selK gs id (k + 1) = selK gs id k) := R2
            clear R2 HO
            go_wp2
            go_roundw
            case rel => exact ⟨k + 1, by omega, by go_num, R1, a, cap, by rw [HR2.out], R3⟩
            case measure => simp [intOf]; omega
        · have hkm : k = m := by omega
          subst hkm
          obtain ⟨x0, x1, x2, x3, HX⟩ := res_cells HR.out.1 hbel.out (by have := lt_of_block HB.out.1; omega)
          go_wp2
          obtain ⟨s0, s1, s2⟩ := two_set HX.out (.int .i64 0) (.slice a (selK gs id k).length cap)
          have hbw : Below w.heap.size w wr := HR.out.2.trans (hbel.out.mono (by have := HB.out.2.1.size; omega))
          have hsz2 : w.heap.size + 1 < w2.heap.size := lt_of_block HB.out.1
          refine bodyPost_ret (v := .agg #[.int .i64 0, .slice a (selK gs id k).length cap]) (by simp [results, Try.results10, go_sem, s0, s1]) rfl ⟨below_res hbw _ _, a, cap, rfl, ?_⟩
          refine Joins.ownsRow_le (base := w2.heap.size + 1) ?_ (by omega)
          exact ownsRow_setCell_below (ownsRow_setCell_below HO.out (a := ⟨w.heap.size + 1, 0, none⟩) (show w.heap.size + 1 < _ by omega) _) (a := ⟨w.heap.size + 1, 1, none⟩) (show w.heap.size + 1 < _ by omega) _
    · have hi' : inB id 1 n = false := by simpa using hi
      rw [signsR_none HN.out hc hi']
      have HI : Hid (inB id 1 n = false) := hi'
      clear hc hi hi'
      go_enter Try.func10, Try.ntmps10
      go_wp2_with (first
        | (go_at_call 16; refine hrd.mono ?_; rintro e w2 ⟨p, q, top, rfl, hb2, HT⟩; obtain ⟨p0, p1, q0, q1, q2, q3, HB⟩ := box2_facts hb2; obtain ⟨r0, r1, r2, r3, HR⟩ := box2_more (o := .cells #[.pointer (some ⟨p, 0, none⟩), .pointer (some ⟨q, 0, none⟩)] 48) ⟨HB.out.1, HB.out.2.1⟩; obtain ⟨ia, ic, hI, HSA⟩ := tw_items (o := .cells #[.pointer (some ⟨p, 0, none⟩), .pointer (some ⟨q, 0, none⟩)] 48) HN.out HT.out.1; have hat := hasNumber_any p n ic ia id _ hI; rw [HI.out] at hat; clear p0 p1 q0 q1 q2 q3 hb2 hI)
        | (go_at_call 18; refine hat.mono ?_; rintro e w3 ⟨rfl, hw⟩; subst hw))
      obtain ⟨s0, s1, s2⟩ := two_set HR.out.1 (.int .i64 3) (.slice none 0 0)
      exact bodyPost_ret (v := .agg #[.int .i64 3, .slice none 0 0]) (by simp [results, Try.results10, go_sem, s0, s1]) rfl (OutI.empty (below_res HR.out.2 _ _))
  · have hrd := read_bad (tc := tc) (gc := gc) (b0 := .int .i64 0) (b1 := .slice none 0 0) (t' := 37) hf h hc hcz
    rw [signsR_bad hc hcz]
    clear hc h hf
    go_enter Try.func10, Try.ntmps10
    go_wp2_with (first
      | (go_at_call 16; refine hrd.mono ?_; rintro e w2 ⟨rfl, hb2⟩; obtain ⟨p0, p1, q0, q1, q2, q3, HB⟩ := box2_facts hb2; obtain ⟨r0, r1, r2, r3, HR⟩ := box2_more (o := .cells #[.pointer none, .pointer none] 48) ⟨HB.out.1, HB.out.2.1⟩; clear p0 p1 q0 q1 q2 q3 hb2))
    obtain ⟨s0, s1, s2⟩ := two_set HR.out.1 (.int .i64 c) (.slice none 0 0)
    exact bodyPost_ret (v := .agg #[.int .i64 c, .slice none 0 0]) (by simp [results, Try.results10, go_sem, s0, s1]) rfl (OutI.empty (below_res HR.out.2 _ _))

end Go.Proofs.Ytapicejadjeejaa

namespace Go.Proofs.Ytapicejadjeejaa
open Go.RowKit Go.Maps Go.WideMaps
attribute [local go_sem ↓] Go.wp_at_zero Go.wp_at_succ

end Go.Proofs.Ytapicejadjeejaa

namespace Go.Proofs.Ytapicejadjeejaa
open Go.RowKit Go.Maps Go.WideMaps

def IAt (w : World) (a : Option Addr) (n : Nat) (l : List Int) : Prop :=
  l.length = n ∧ (n = 0 ∨ ∃ b off, a = some ⟨b, off, none⟩ ∧ b < w.heap.size ∧ ∀ j, j < n → w.cell? ⟨b, off + j, none⟩ = some (.int .i64 (l.getD j 0)))

theorem IAt.below {w w' : World} {a : Option Addr} {n : Nat} {l : List Int} (h : IAt w a n l) {B : Nat} (hb : Below B w w') (hB : w.heap.size ≤ B) : IAt w' a n l := by
  obtain ⟨hn, h | ⟨b, off, rfl, hlt, hc⟩⟩ := h
  · exact ⟨hn, .inl h⟩
  · exact ⟨hn, .inr ⟨b, off, rfl, Nat.lt_of_lt_of_le hlt hb.size, fun j hj => (hb.cell (p := ⟨b, off + j, none⟩) (Nat.lt_of_lt_of_le hlt hB)).trans (hc j hj)⟩⟩

theorem IAt.owned {w : World} {base n c : Nat} {a : Option Addr} {l : List Int} (h : w.ownsRow base 2 1 (.slice a n c) n (ints l)) (hn : l.length = n) : IAt w a n l := by
  refine ⟨hn, ?_⟩
  rcases id h.2 with ⟨_, h0⟩ | ⟨g, cap, cur, e, _⟩
  · exact .inl h0
  · simp at e
    obtain ⟨rfl, rfl⟩ := e
    refine .inr ⟨g, 0, rfl, (h.lt g rfl).2, fun j hj => ?_⟩
    rw [Nat.zero_add, h.cellAt j (by omega)]
    simp [ints, List.getD, show j < l.length by omega]

end Go.Proofs.Ytapicejadjeejaa
